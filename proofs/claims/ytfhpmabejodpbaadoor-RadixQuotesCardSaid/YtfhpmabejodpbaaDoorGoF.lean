/-
  Walks over Quote of package radix and what it calls. Conditions: the tables of the library hold what their initialisers lay; the text is at most 2^44 bytes long.
-/
import Derived.Test.YtfhpmabejodpbaaDoorGoE
namespace Go.Proofs.YtfhpmabejodpbaaDoor
open Go.RowKit
set_option linter.unusedSimpArgs false

theorem Tabs.belowB {w w' : World} {B : Nat} (W : Tabs w) (hB : w.heap.size ≤ B) (h : Below B w w') : Tabs w' := W.below (h.mono hB)

/-- A builder in block b that holds l. -/
def Bld (B b : Nat) (l : List UInt8) (w : World) : Prop := Lib.IsBuilderF 53 5 B b (Lib.byteCells l) w

theorem Bld.lt {B b : Nat} {l : List UInt8} {w : World} (h : Bld B b l w) : b < w.heap.size := by
  rcases h with h | h <;> exact h.lt
theorem builder_below {B b : Nat} {p : Value} {bs : List Value} {w w' : World} (h : Lib.BuilderAtF 53 5 B b p bs w) (hb : Below w.heap.size w w') : Lib.BuilderAtF 53 5 B b p bs w' := by
  have hlt := h.lt
  obtain ⟨hB, v, hv, hown, hne⟩ := h
  exact ⟨hB, v, (hb.block b hlt).trans hv, hown.kept (row := none) ⟨hb.os, hb.tape, hb.output, hb.size, fun k hk _ => hb.block k hk⟩ (by
    rcases he : v.ownBlock with _ | g
    · exact Or.inl rfl
    · exact Or.inr (by simp)), hne⟩
theorem Bld.below {B b : Nat} {l : List UInt8} {w w' : World} (h : Bld B b l w) (hb : Below w.heap.size w w') : Bld B b l w' := by
  rcases h with h | h
  · exact Or.inl (builder_below h hb)
  · exact Or.inr (builder_below h hb)
theorem cells_snoc (l : List UInt8) (c : UInt8) : Lib.byteCells l ++ [.int .u8 (c.toNat : Int)] = Lib.byteCells (l ++ [c]) := by simp [Lib.byteCells]
theorem cells_app (l : List UInt8) (s : List UInt8) : Lib.byteCells l ++ Lib.strCells ⟨s.toArray⟩ = Lib.byteCells (l ++ s) := by simp [Lib.byteCells, Lib.strCells]
theorem cells_len (l : List UInt8) : (Lib.byteCells l).length = l.length := by simp [Lib.byteCells]

theorem wbyte (B b : Nat) (l : List UInt8) (c : UInt8) (n : Int) (hn : n = (c.toNat : Int)) (w : World) (h : Bld B b l w) (hlen : l.length + 1 ≤ 140737488355328) (hBw : B ≤ w.heap.size) :
    Calls Tryd.prog 33 #[.pointer (some ⟨b, 0, none⟩), .int .u8 n] w fun e w' => e = .returned .nilIface ∧ Bld B b (l ++ [c]) w' ∧ Below B w w' := by
  subst hn
  refine (Tryd.Builder_WriteByte_k B b (Lib.byteCells l) (c.toNat : Int) w h (by rw [cells_len]; exact hlen) hBw).mono ?_
  rintro e w' ⟨rfl, hb, h1, _⟩
  rw [cells_snoc] at hb
  exact ⟨rfl, Or.inr hb, h1⟩
theorem wstr (B b : Nat) (l s : List UInt8) (w : World) (h : Bld B b l w) (hlen : l.length + s.length ≤ 140737488355328) (hBw : B ≤ w.heap.size) :
    Calls Tryd.prog 41 #[.pointer (some ⟨b, 0, none⟩), .string ⟨s.toArray⟩] w fun e w' => e = .returned (.tuple #[.int .i64 s.length, .nilIface]) ∧ Bld B b (l ++ s) w' ∧ Below B w w' := by
  have hs : ByteArray.size ⟨s.toArray⟩ = s.length := by simp [ByteArray.size]
  refine (Tryd.Builder_WriteString_k B b (Lib.byteCells l) ⟨s.toArray⟩ w h (by rw [cells_len, hs]; exact hlen) hBw).mono ?_
  rintro e w' ⟨rfl, hb, h1, _⟩
  rw [cells_app] at hb
  exact ⟨by rw [hs], Or.inr hb, h1⟩

theorem qel_pln {c : UInt8} (h : pln c = true) : qel c = [c] := if_pos h
theorem qel_two {c : UInt8} (h : pln c = false) (h2 : c.toNat = 34 ∨ c.toNat = 92) : qel c = [92, c] := by
  have h3 : c = 34 ∨ c = 92 := by
    rcases h2 with h2 | h2
    · exact Or.inl (UInt8.toNat_inj.1 h2)
    · exact Or.inr (UInt8.toNat_inj.1 h2)
  rw [qel, if_neg (by simp [h]), if_pos h3]
theorem qel_ten {c : UInt8} (h : pln c = false) (h2 : c.toNat = 10) : qel c = [92, 110] := by
  have h3 : c = 10 := UInt8.toNat_inj.1 h2
  subst h3; decide
theorem qel_oct {c : UInt8} (h : pln c = false) (h2 : ¬ (c.toNat = 34 ∨ c.toNat = 92)) (h10 : ¬ c.toNat = 10) : qel c = 92 :: pad c.toNat 8 3 := by
  have h3 : ¬ (c = 34 ∨ c = 92) := by rintro (rfl | rfl) <;> simp at h2
  have h4 : ¬ c = 10 := by rintro rfl; simp at h10
  rw [qel, if_neg (by simp [h]), if_neg h3, if_neg h4]

set_option maxHeartbeats 1000000 in
theorem welem (B b : Nat) (l : List UInt8) (c : UInt8) (w : World) (h : Bld B b l w) (hlen : l.length + 70 ≤ 140737488355328) (hBw : B ≤ w.heap.size) (WB : ∀ w', Below B w w' → Tabs w') :
    Calls Tryd.prog 34 #[.pointer (some ⟨b, 0, none⟩), .int .u8 c.toNat] w fun e w' => e = .returned (.tuple #[]) ∧ Bld B b (l ++ qel c) w' ∧ Below B w w' := by
  have hpl := isPlain_any c
  have hbA := fun w h hb => wbyte B b l 92 92 rfl w h (by omega) hb
  have hbP := fun w h hb => wbyte B b l c _ rfl w h (by omega) hb
  have hbC := fun w h hb => wbyte B b (l ++ [92]) c _ rfl w h (by simp; omega) hb
  by_cases hp : pln c = true
  · rw [qel_pln hp]
    rw [hp] at hpl
    generalize (c.toNat : Int) = n at *
    go_enter Tryd.func34, Tryd.ntmps34
    go_wp2_with (first
      | (go_at_call 43; refine (hpl _).mono ?_; rintro e w' ⟨rfl, rfl⟩)
      | (go_at_call 33; with_reducible refine (hbP _ h hBw).mono ?_; rintro e w1 ⟨rfl, h1, b1⟩))
    refine bodyPost_ret (v := .tuple #[]) (by simp [results, Tryd.results34, go_sem]) rfl ⟨rfl, h1, b1⟩
  · have hp : pln c = false := by simpa using hp
    rw [hp] at hpl
    by_cases h2 : c.toNat = 34 ∨ c.toNat = 92
    · rw [qel_two hp h2, show l ++ [92, c] = (l ++ [92]) ++ [c] by simp]
      have h2' : (c.toNat : Int) = 34 ∨ (c.toNat : Int) = 92 := by omega
      clear h2
      generalize (c.toNat : Int) = n at *
      rcases h2' with rfl | rfl
      all_goals
        go_enter Tryd.func34, Tryd.ntmps34
        go_wp2_with (first
          | (go_at_call 43; refine (hpl _).mono ?_; rintro e w' ⟨rfl, rfl⟩)
          | (go_at_call 33; with_reducible refine (hbA w h hBw).mono ?_; rintro e w1 ⟨rfl, h1, b1⟩)
          | (go_at_call 33; with_reducible refine (hbC _ (by assumption) (by have := b1.size; omega)).mono ?_; rintro e w2 ⟨rfl, h2, b2⟩))
        refine bodyPost_end (v := .tuple #[]) (by simp [results, Tryd.results34, go_sem]) rfl ⟨rfl, h2, b1.trans b2⟩
    · by_cases h3 : c.toNat = 10
      · rw [qel_ten hp h3, show l ++ [92, 110] = (l ++ [92]) ++ [110] by simp]
        have hbN := fun w h hb => wbyte B b (l ++ [92]) 110 110 rfl w h (by simp; omega) hb
        have h3' : (c.toNat : Int) = 10 := by omega
        clear h2 h3
        generalize (c.toNat : Int) = n at *
        subst h3'
        go_enter Tryd.func34, Tryd.ntmps34
        go_wp2_with (first
          | (go_at_call 43; refine (hpl _).mono ?_; rintro e w' ⟨rfl, rfl⟩)
          | (go_at_call 33; with_reducible refine (hbA w h hBw).mono ?_; rintro e w1 ⟨rfl, h1, b1⟩)
          | (go_at_call 33; with_reducible refine (hbN _ (by assumption) (by have := b1.size; omega)).mono ?_; rintro e w2 ⟨rfl, h2, b2⟩))
        refine bodyPost_end (v := .tuple #[]) (by simp [results, Tryd.results34, go_sem]) rfl ⟨rfl, h2, b1.trans b2⟩
      · have hc := UInt8.toNat_lt c
        rw [qel_oct hp h2 h3, show l ++ 92 :: pad c.toNat 8 3 = (l ++ [92]) ++ pad c.toNat 8 3 by simp]
        have hpd := fun w W => pad_any (c.toNat : Int) 8 3 (by omega) (by omega) w W
        have hpl3 : (pad c.toNat 8 3).length = 3 := by rw [pad3 _ hc]; rfl
        have hbS := fun w h hb => wstr B b (l ++ [92]) (pad c.toNat 8 3) w h (by simp [hpl3]; omega) hb
        have hn1 : ¬ (c.toNat : Int) = 34 := by omega
        have hn2 : ¬ (c.toNat : Int) = 92 := by omega
        have hn3 : ¬ (c.toNat : Int) = 10 := by omega
        have hn4 : (0 : Int) ≤ (c.toNat : Int) ∧ (c.toNat : Int) < 256 := by omega
        clear h2 h3 hpl3 hc
        generalize pad (c.toNat : Int) 8 3 = P at *
        generalize (c.toNat : Int) = n at *
        go_enter Tryd.func34, Tryd.ntmps34
        go_wp2_with (first
          | (go_at_call 43; refine (hpl _).mono ?_; rintro e w' ⟨rfl, rfl⟩)
          | (go_at_call 33; with_reducible refine (hbA w h hBw).mono ?_; rintro e w1 ⟨rfl, h1, b1⟩)
          | (go_at_call 10; refine (hpd _ (WB _ (by assumption))).mono ?_; rintro e w2 ⟨rfl, b2⟩; have h2 := h1.below b2)
          | (go_at_call 41; refine (hbS _ (by assumption) (by have := b1.size; have := b2.size; omega)).mono ?_; rintro e w3 ⟨rfl, h3, b3⟩))
        refine bodyPost_end (v := .tuple #[]) (by simp [results, Tryd.results34, go_sem]) rfl ⟨rfl, h3, b1.trans ((b2.mono (by have := b1.size; omega)).trans b3)⟩

theorem bstring (B b : Nat) (l : List UInt8) (w : World) (h : Bld B b l w) (hBw : B ≤ w.heap.size) :
    Calls Tryd.prog 35 #[.pointer (some ⟨b, 0, none⟩)] w fun e w' => e = .returned (.string ⟨l.toArray⟩) ∧ Below B w w' := by
  refine (Tryd.Builder_String_any_k B b l w h hBw).mono ?_
  rintro e w' ⟨rfl, _, h1, _⟩
  exact ⟨rfl, h1⟩

theorem quo_take (l : List UInt8) (k : Nat) (h : k < l.length) : 34 :: (l.take (k + 1)).flatMap qel = (34 :: (l.take k).flatMap qel) ++ qel (l.getD k 0) := by
  have e : l.take (k + 1) = l.take k ++ [l.getD k 0] := by
    rw [List.take_add_one, List.getD, List.getElem?_eq_getElem h]; rfl
  rw [e, List.flatMap_append]
  simp only [List.flatMap_cons, List.flatMap_nil, List.append_nil, List.cons_append]

set_option maxHeartbeats 1000000 in
theorem quote_any (s : ByteArray) (hs : s.size ≤ 1000000) (w : World) (W : Tabs w) :
    Calls Tryd.prog 20 #[.string s] w fun e w' => e = .returned (.string ⟨(quo s.data.toList).toArray⟩) ∧ Below w.heap.size w w' := by
  have hst : Bld w.heap.size w.heap.size [] (w.alloc (.cells #[.pointer none, .slice none 0 0] 53)) := Lib.IsBuilderF.of (Lib.fresh_isBuilder _ _ w)
  have hb0 : Below w.heap.size w (w.alloc (.cells #[.pointer none, .slice none 0 0] 53)) := (Below.refl _ _).alloc (Nat.le_refl _) _
  have hq0 := wbyte w.heap.size w.heap.size [] 34 34 rfl _ hst (by simp) hb0.size
  go_enter Tryd.func20, Tryd.ntmps20
  go_wp2_with (first
    | (go_at_call 33; with_reducible refine hq0.mono ?_; rintro e w1 ⟨rfl, h1, b1⟩; have b1 := hb0.trans b1))
  clear hst hb0 hq0
  go_loopw [8] (fun i wr => ∃ k : Nat, k ≤ s.size ∧ i = .int .i64 k ∧ Bld w.heap.size w.heap.size (34 :: (s.data.toList.take k).flatMap qel) wr ∧ Below w.heap.size w wr)
    (fun i _ => match i with | .int _ q => s.size - q.toNat | _ => 0)
  case atStart => exact ⟨0, Nat.zero_le _, rfl, by simpa using h1, b1⟩
  case round =>
    clear h1 b1
    obtain ⟨k, hk, rfl, hB, hbr⟩ := hrel
    have hfl := flat_le (s.data.toList.take k)
    have hlen : (s.data.toList.take k).length ≤ 1000000 := by rw [List.length_take]; omega
    have hL : (34 :: (s.data.toList.take k).flatMap qel).length ≤ 5000000 := by simp only [List.length_cons]; omega
    by_cases hkl : k < s.size
    · have hix : ∀ h : k < s.size, s[k]'h = s.data.toList.getD k 0 := fun h => byte_at s k h
      have hT := quo_take s.data.toList k hkl
      generalize s.data.toList.getD k 0 = c at *
      have hW := welem w.heap.size w.heap.size _ c wr hB (by omega) hbr.size (fun w' hb => W.below (hbr.trans hb))
      rw [← hT] at hW
      clear hT
      go_wp2_with (first
        | (go_at_call 34; with_reducible refine hW.mono ?_; rintro e w2 ⟨rfl, h2, b2⟩))
      refine ⟨⟨k + 1, by omega, by go_num, h2, hbr.trans b2⟩, ?_⟩
      simp only; omega
    · have hkk : k = s.size := by omega
      have htk : s.data.toList.take k = s.data.toList := List.take_of_length_le (by rw [size_len]; omega)
      rw [htk] at hB hL
      have hWb := wbyte w.heap.size w.heap.size _ 34 34 rfl wr hB (by omega) hbr.size
      rw [show (34 :: s.data.toList.flatMap qel) ++ [34] = quo s.data.toList from rfl] at hWb
      clear htk hfl hlen
      go_wp2_with (first
        | (go_at_call 33; with_reducible refine hWb.mono ?_; rintro e w2 ⟨rfl, h2, b2⟩; have b2 := hbr.trans b2)
        | (go_at_call 35; with_reducible refine (bstring _ _ _ _ h2 b2.size).mono ?_; rintro e w3 ⟨rfl, b3⟩))
      go_ret
      exact ⟨rfl, b2.trans b3⟩

end Go.Proofs.YtfhpmabejodpbaaDoor
