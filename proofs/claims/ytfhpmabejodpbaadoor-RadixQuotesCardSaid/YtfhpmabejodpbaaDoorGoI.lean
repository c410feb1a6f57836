/-
  Walks over Unquote of package radix and of its reference. Condition: the text is at most a million bytes long.
-/
import Derived.Test.YtfhpmabejodpbaaDoorGoH
import Derived.Laws.IdiomStrings
import Derived.Lib.IndexBytes
import Derived.Lib.UnsafeStr
import Derived.Maps.AppendAt
namespace Go.Proofs.YtfhpmabejodpbaaDoor
open Go.RowKit
set_option linter.unusedSimpArgs false

theorem cells_snoc8 (l : List UInt8) (c : UInt8) : Lib.byteCells l ++ [.int .u8 (c.toNat : Int)] = Lib.byteCells (l ++ [c]) := by simp [Lib.byteCells]
/-- What Unquote returns, as a value. -/
def uV (x : List UInt8 × Int × Int) : Value := .tuple #[.string ⟨x.1.toArray⟩, .int .i64 x.2.1, .int .i64 x.2.2]
def bad : Value := .tuple #[.string ⟨#[]⟩, .int .i64 0, .int .i64 3]

theorem unq_bad {l : List UInt8} (h : l.head? ≠ some 34) : uV (unq l) = bad := by rw [unq, if_pos h]; rfl
theorem unq_none {l : List UInt8} (h : l.head? = some 34) (h1 : unqGo l.tail [] 1 = none) : uV (unq l) = bad := by rw [unq, if_neg (by simp [h]), h1]; rfl
theorem unq_some {l : List UInt8} {x : List UInt8 × Nat} (h : l.head? = some 34) (h1 : unqGo l.tail [] 1 = some x) : uV (unq l) = .tuple #[.string ⟨x.1.toArray⟩, .int .i64 x.2, .int .i64 0] := by rw [unq, if_neg (by simp [h]), h1]; rfl

theorem head_at (l : List UInt8) (h : 0 < l.length) : l.head? = some (l.getD 0 0) := by
  match l, h with
  | c :: r, _ => rfl
theorem elm_le (l : List UInt8) (h : 0 < l.length) : (elm l).2 ≤ l.length := by
  rcases elm_cases l h with ⟨_, e⟩ | ⟨_, _, e⟩ | ⟨_, _, _, e⟩ | ⟨_, _, _, _, e⟩ | ⟨_, _, _, _, e⟩ | ⟨_, _, _, _, _, _, e⟩
  all_goals rw [e]
  all_goals try (simp only; omega)
  rw [oct]
  split
  · simp
  · split
    · simp
    · simp only; omega
theorem drop_getD (l : List UInt8) (p : Nat) : (l.drop p).getD 0 0 = l.getD p 0 := by simp [List.getD, List.getElem?_drop]

theorem own_conv {base : Nat} {v : Value} {out : List UInt8} {w : World} (h : w.ownsRow base 5 1 v out.length (Lib.byteCells out)) : (convert 48 9 v).run Tryd.prog w = .ok (.string ⟨out.toArray⟩) w := by
  rcases h.2 with ⟨rfl, h0⟩ | ⟨g, cap, cur, rfl, _⟩
  · have : out = [] := List.eq_nil_of_length_eq_zero h0
    subst this
    rw [run_convert_bytes_string w 48 9 5 none 0 0 Tryd.underlying48 Tryd.underlying5 Tryd.underlying9]
    rfl
  · refine run_convert_bytes_back (P := Tryd.prog) w 48 9 5 ⟨g, 0, none⟩ cap out Tryd.underlying48 Tryd.underlying5 Tryd.underlying9 (fun j hj => ?_)
    refine h.cells (g := g) rfl j _ ?_
    simp [Lib.byteCells, hj]

theorem info8_unquote : (Tryd.prog.info? 5).map (fun i => (i.zero, i.size, i.bytes)) = some (some (.int .u8 0), 1, 1) := by kernel_rfl

set_option maxHeartbeats 1000000 in
theorem unquote_go (s : ByteArray) (hs : s.size ≤ 1000000) (h0 : 0 < s.size) (hq : (s.data.toList.getD 0 0).toNat = 34) (w : World) :
    Calls Tryd.prog 18 #[.string s] w fun e w' => e = .returned (uV (unq s.data.toList)) ∧ Below w.heap.size w w' := by
  have hse := not_empty h0
  have hsz := size_len s
  have hix0 : ∀ h : 0 < s.size, s[0]'h = s.data.toList.getD 0 0 := fun h => byte_at s 0 h
  have hhd : s.data.toList.head? = some 34 := by
    rw [head_at _ (by omega)]; congr 1; exact UInt8.toNat_inj.1 hq
  have hN := hid (@unq_none s.data.toList hhd)
  have hS := hid (@unq_some s.data.toList · hhd)
  have hq' : ((s.data.toList.getD 0 0).toNat : Int) = 34 := by omega
  obtain ⟨V, hV⟩ : ∃ V, V = uV (unq s.data.toList) := ⟨_, rfl⟩
  rw [← hV] at hN hS ⊢
  generalize s.data.toList.getD 0 0 = c0 at *
  clear hV hq hhd
  obtain ⟨i0, hi, hz0, hz1, hz2⟩ := info_parts info8_unquote
  go_enter Tryd.func18, Tryd.ntmps18
  go_wp2
  go_loopw [5, 6] (fun v p wr => ∃ (k : Nat) (out : List UInt8), p = .int .i64 k ∧ 1 ≤ k ∧ k ≤ s.size ∧ out.length ≤ k ∧ wr.ownsRow w.heap.size 5 1 v out.length (Lib.byteCells out) ∧ Below w.heap.size w wr ∧ Hid (unqGo (s.data.toList.drop k) out k = unqGo s.data.toList.tail [] 1))
    (fun _ p _ => match p with | .int _ q => s.size - q.toNat | _ => 0)
  case atStart => exact ⟨1, [], rfl, by omega, by omega, by simp, World.ownsRow_nil _ _ _ _, Below.refl _ _, by unfold Hid; rw [List.drop_one]⟩
  case round =>
    clear hix0 hq'
    obtain ⟨k, out, rfl, hk1, hk, hol, hown, hbr, HS⟩ := hrel
    by_cases hkl : k < s.size
    · have hix : ∀ h : k < s.size, s[k]'h = s.data.toList.getD k 0 := fun h => byte_at s k h
      have H : unqGo (s.data.toList.drop k) out k = unqGo s.data.toList.tail [] 1 := HS
      have hdl : 0 < (s.data.toList.drop k).length := by rw [List.length_drop]; omega
      have hhd := head_at _ hdl
      rw [drop_getD] at hhd
      by_cases hb : (s.data.toList.getD k 0).toNat = 34
      · have hb2 : s.data.toList.getD k 0 = 34 := UInt8.toNat_inj.1 hb
        have hV : Hid (V = .tuple #[.string ⟨out.toArray⟩, .int .i64 ((k + 1 : Nat) : Int), .int .i64 0]) := by
          rw [drop_at _ k (by omega), hb2, unqGo_end] at H
          exact hS _ H.symm
        have hb' : ((s.data.toList.getD k 0).toNat : Int) = 34 := by omega
        have hcv := own_conv hown
        generalize s.data.toList.getD k 0 = b at *
        clear HS hN hS H hhd hdl hb hb2
        go_wp2
        go_ret3
        exact ⟨by unfold Hid at hV; rw [hV]; rfl, hbr⟩
      · have hne : (s.data.toList.drop k).head? ≠ some 34 := by
          rw [hhd]; intro h; injection h with h; rw [h] at hb; exact hb rfl
        have hb' : ¬ ((s.data.toList.getD k 0).toNat : Int) = 34 := by omega
        have hbb : (((s.data.toList.getD k 0).toNat : Int) == 34) = false := by simpa using hb'
        have hxs : (s.extract k s.size).size = s.size - k := by rw [← size_len, Lib.extract_to_end, List.length_drop, hsz]
        have hel := fun w => relem_any (s.extract k s.size) (by omega) (by omega) w
        rw [Lib.extract_to_end] at hel
        have hele := elm_le _ hdl
        rw [List.length_drop, hsz] at hele
        have h0e := @unqGo_none (s.data.toList.drop k) out k hne
        have h1e := @unqGo_step (s.data.toList.drop k) out k hne
        rw [List.drop_drop] at h1e
        generalize s.data.toList.getD k 0 = b at *
        generalize elm (s.data.toList.drop k) = E at *
        obtain ⟨c, n⟩ := E
        simp only [eV] at hel hele h0e h1e
        by_cases hn : n = 0
        · have hV : Hid (V = bad) := by
            rw [h0e hn] at H
            exact hN H.symm
          subst hn
          clear HS hN hS H hhd hdl hb hne h0e h1e
          go_wp2_with (first
            | (go_at_call 31; with_reducible refine (hel _).mono ?_; rintro e w' ⟨rfl, rfl⟩))
          go_ret3
          exact ⟨by unfold Hid at hV; rw [hV]; rfl, hbr⟩
        · have H2 : Hid (unqGo (s.data.toList.drop (k + n)) (out ++ [c]) (k + n) = unqGo s.data.toList.tail [] 1) := by
            unfold Hid; rw [← h1e hn]; exact H
          have hn' : ¬ (n : Int) = 0 := by omega
          have hbl : (Lib.byteCells out).length = out.length := by simp [Lib.byteCells]
          clear HS hN hS H hhd hdl hb hne h0e h1e hn
          go_wp2_with (first
            | (go_at_call 31; with_reducible refine (hel _).mono ?_; rintro e w' ⟨rfl, rfl⟩)
            | (at_builtin; refine wpList_append_own _ rfl (.tmp 37) (.tmp 39) 48 rfl w.heap.size 5 i0 (.int .u8 0) 1 1 Tryd.underlying48 hi hz0 hz1 hz2 rfl (by decide) _ _ _ rfl (hown.alloc _) ⟨wr.heap.size, 0, none⟩ 1 1 [.int .u8 (c.toNat : Int)] rfl rfl (cell_one_new _ _ _) (fun x hx => by simp at hx; subst hx; rfl) (by unfold maxLen; omega) (by omega) (by have := hbr.size; simp; omega) ?_; intro v' w1 hown' hgrow _))
          refine ⟨⟨k + n, out ++ [c], by go_num, by omega, by omega, by simp only [List.length_append, List.length_cons, List.length_nil]; omega, ?_, (hbr.alloc hbr.size _).grown hgrow (by have := hbr.size; simp; omega) (fun j hj => (hown.lt j hj).1), H2⟩, ?_⟩
          · rw [cells_snoc8] at hown'
            rw [List.length_append]; exact hown'
          · simp only; omega
    · have hkk : k = s.size := by omega
      have hV : V = bad := by
        have H : unqGo (s.data.toList.drop k) out k = unqGo s.data.toList.tail [] 1 := HS
        rw [List.drop_eq_nil_of_le (by omega), unqGo_nil] at H
        exact hN H.symm
      have hV := hid hV
      clear HS hN hS
      go_wp2
      go_ret3
      exact ⟨by unfold Hid at hV; rw [hV]; rfl, hbr⟩

theorem info8_runquote : (Tryd.prog.info? 5).map (fun i => (i.zero, i.size, i.bytes)) = some (some (.int .u8 0), 1, 1) := by kernel_rfl

set_option maxHeartbeats 1000000 in
theorem runquote_go (s : ByteArray) (hs : s.size ≤ 1000000) (h0 : 0 < s.size) (hq : (s.data.toList.getD 0 0).toNat = 34) (w : World) :
    Calls Tryd.prog 19 #[.string s] w fun e w' => e = .returned (uV (unq s.data.toList)) ∧ Below w.heap.size w w' := by
  have hse := not_empty h0
  have hsz := size_len s
  have hix0 : ∀ h : 0 < s.size, s[0]'h = s.data.toList.getD 0 0 := fun h => byte_at s 0 h
  have hhd : s.data.toList.head? = some 34 := by
    rw [head_at _ (by omega)]; congr 1; exact UInt8.toNat_inj.1 hq
  have hN := hid (@unq_none s.data.toList hhd)
  have hS := hid (@unq_some s.data.toList · hhd)
  have hq' : ((s.data.toList.getD 0 0).toNat : Int) = 34 := by omega
  obtain ⟨V, hV⟩ : ∃ V, V = uV (unq s.data.toList) := ⟨_, rfl⟩
  rw [← hV] at hN hS ⊢
  generalize s.data.toList.getD 0 0 = c0 at *
  clear hV hq hhd
  obtain ⟨i0, hi, hz0, hz1, hz2⟩ := info_parts info8_runquote
  go_enter Tryd.func19, Tryd.ntmps19
  go_wp2
  go_loopw [5, 6] (fun v p wr => ∃ (k : Nat) (out : List UInt8), p = .int .i64 k ∧ 1 ≤ k ∧ k ≤ s.size ∧ out.length ≤ k ∧ wr.ownsRow w.heap.size 5 1 v out.length (Lib.byteCells out) ∧ Below w.heap.size w wr ∧ Hid (unqGo (s.data.toList.drop k) out k = unqGo s.data.toList.tail [] 1))
    (fun _ p _ => match p with | .int _ q => s.size - q.toNat | _ => 0)
  case atStart => exact ⟨1, [], rfl, by omega, by omega, by simp, World.ownsRow_nil _ _ _ _, Below.refl _ _, by unfold Hid; rw [List.drop_one]⟩
  case round =>
    clear hix0 hq'
    obtain ⟨k, out, rfl, hk1, hk, hol, hown, hbr, HS⟩ := hrel
    by_cases hkl : k < s.size
    · have hix : ∀ h : k < s.size, s[k]'h = s.data.toList.getD k 0 := fun h => byte_at s k h
      have H : unqGo (s.data.toList.drop k) out k = unqGo s.data.toList.tail [] 1 := HS
      have hdl : 0 < (s.data.toList.drop k).length := by rw [List.length_drop]; omega
      have hhd := head_at _ hdl
      rw [drop_getD] at hhd
      by_cases hb : (s.data.toList.getD k 0).toNat = 34
      · have hb2 : s.data.toList.getD k 0 = 34 := UInt8.toNat_inj.1 hb
        have hV : Hid (V = .tuple #[.string ⟨out.toArray⟩, .int .i64 ((k + 1 : Nat) : Int), .int .i64 0]) := by
          rw [drop_at _ k (by omega), hb2, unqGo_end] at H
          exact hS _ H.symm
        have hb' : ((s.data.toList.getD k 0).toNat : Int) = 34 := by omega
        have hcv := own_conv hown
        generalize s.data.toList.getD k 0 = b at *
        clear HS hN hS H hhd hdl hb hb2
        go_wp2
        go_ret3
        exact ⟨by unfold Hid at hV; rw [hV]; rfl, hbr⟩
      · have hne : (s.data.toList.drop k).head? ≠ some 34 := by
          rw [hhd]; intro h; injection h with h; rw [h] at hb; exact hb rfl
        have hb' : ¬ ((s.data.toList.getD k 0).toNat : Int) = 34 := by omega
        have hbb : (((s.data.toList.getD k 0).toNat : Int) == 34) = false := by simpa using hb'
        have hxs : (s.extract k s.size).size = s.size - k := by rw [← size_len, Lib.extract_to_end, List.length_drop, hsz]
        have hel := fun w => selem_any (s.extract k s.size) (by omega) (by omega) w
        rw [Lib.extract_to_end] at hel
        have hele := elm_le _ hdl
        rw [List.length_drop, hsz] at hele
        have h0e := @unqGo_none (s.data.toList.drop k) out k hne
        have h1e := @unqGo_step (s.data.toList.drop k) out k hne
        rw [List.drop_drop] at h1e
        generalize s.data.toList.getD k 0 = b at *
        generalize elm (s.data.toList.drop k) = E at *
        obtain ⟨c, n⟩ := E
        simp only [eV] at hel hele h0e h1e
        by_cases hn : n = 0
        · have hV : Hid (V = bad) := by
            rw [h0e hn] at H
            exact hN H.symm
          subst hn
          clear HS hN hS H hhd hdl hb hne h0e h1e
          go_wp2_with (first
            | (go_at_call 32; with_reducible refine (hel _).mono ?_; rintro e w' ⟨rfl, rfl⟩))
          go_ret3
          exact ⟨by unfold Hid at hV; rw [hV]; rfl, hbr⟩
        · have H2 : Hid (unqGo (s.data.toList.drop (k + n)) (out ++ [c]) (k + n) = unqGo s.data.toList.tail [] 1) := by
            unfold Hid; rw [← h1e hn]; exact H
          have hn' : ¬ (n : Int) = 0 := by omega
          have hbl : (Lib.byteCells out).length = out.length := by simp [Lib.byteCells]
          clear HS hN hS H hhd hdl hb hne h0e h1e hn
          go_wp2_with (first
            | (go_at_call 32; with_reducible refine (hel _).mono ?_; rintro e w' ⟨rfl, rfl⟩)
            | (at_builtin; refine wpList_append_own _ rfl (.tmp 35) (.tmp 37) 48 rfl w.heap.size 5 i0 (.int .u8 0) 1 1 Tryd.underlying48 hi hz0 hz1 hz2 rfl (by decide) _ _ _ rfl (hown.alloc _) ⟨wr.heap.size, 0, none⟩ 1 1 [.int .u8 (c.toNat : Int)] rfl rfl (cell_one_new _ _ _) (fun x hx => by simp at hx; subst hx; rfl) (by unfold maxLen; omega) (by omega) (by have := hbr.size; simp; omega) ?_; intro v' w1 hown' hgrow _))
          refine ⟨⟨k + n, out ++ [c], by go_num, by omega, by omega, by simp only [List.length_append, List.length_cons, List.length_nil]; omega, ?_, (hbr.alloc hbr.size _).grown hgrow (by have := hbr.size; simp; omega) (fun j hj => (hown.lt j hj).1), H2⟩, ?_⟩
          · rw [cells_snoc8] at hown'
            rw [List.length_append]; exact hown'
          · simp only; omega
    · have hkk : k = s.size := by omega
      have hV : V = bad := by
        have H : unqGo (s.data.toList.drop k) out k = unqGo s.data.toList.tail [] 1 := HS
        rw [List.drop_eq_nil_of_le (by omega), unqGo_nil] at H
        exact hN H.symm
      have hV := hid hV
      clear HS hN hS
      go_wp2
      go_ret3
      exact ⟨by unfold Hid at hV; rw [hV]; rfl, hbr⟩

set_option maxHeartbeats 400000 in
theorem unquote_any (s : ByteArray) (hs : s.size ≤ 1000000) (w : World) :
    Calls Tryd.prog 18 #[.string s] w fun e w' => e = .returned (uV (unq s.data.toList)) ∧ Below w.heap.size w w' := by
  have hsz := size_len s
  by_cases h0 : s.size = 0
  · have hse := is_empty h0
    rw [unq_bad (by rw [nil_of_size h0]; simp)]
    go_enter Tryd.func18, Tryd.ntmps18
    go_wp2
    go_ret3
    exact ⟨rfl, Below.refl _ _⟩
  · by_cases hq : (s.data.toList.getD 0 0).toNat = 34
    · exact unquote_go s hs (by omega) hq w
    · have hse := not_empty (s := s) (by omega)
      have hix0 : ∀ h : 0 < s.size, s[0]'h = s.data.toList.getD 0 0 := fun h => byte_at s 0 h
      have hb1 : ¬ ((s.data.toList.getD 0 0).toNat : Int) = 34 := by omega
      have hb2 : (((s.data.toList.getD 0 0).toNat : Int) == 34) = false := by simpa using hb1
      have hb3 : (((s.data.toList.getD 0 0).toNat : Int) != 34) = true := by simpa using hb1
      rw [unq_bad (by rw [head_at _ (by omega)]; intro h; injection h with h; rw [h] at hq; exact hq rfl)]
      generalize s.data.toList.getD 0 0 = c at *
      go_enter Tryd.func18, Tryd.ntmps18
      go_wp2
      go_ret3
      exact ⟨rfl, Below.refl _ _⟩

set_option maxHeartbeats 400000 in
theorem runquote_any (s : ByteArray) (hs : s.size ≤ 1000000) (w : World) :
    Calls Tryd.prog 19 #[.string s] w fun e w' => e = .returned (uV (unq s.data.toList)) ∧ Below w.heap.size w w' := by
  have hsz := size_len s
  by_cases h0 : s.size = 0
  · have hse := is_empty h0
    rw [unq_bad (by rw [nil_of_size h0]; simp)]
    go_enter Tryd.func19, Tryd.ntmps19
    go_wp2
    go_ret3
    exact ⟨rfl, Below.refl _ _⟩
  · by_cases hq : (s.data.toList.getD 0 0).toNat = 34
    · exact runquote_go s hs (by omega) hq w
    · have hse := not_empty (s := s) (by omega)
      have hix0 : ∀ h : 0 < s.size, s[0]'h = s.data.toList.getD 0 0 := fun h => byte_at s 0 h
      have hb1 : ¬ ((s.data.toList.getD 0 0).toNat : Int) = 34 := by omega
      have hb2 : (((s.data.toList.getD 0 0).toNat : Int) == 34) = false := by simpa using hb1
      have hb3 : (((s.data.toList.getD 0 0).toNat : Int) != 34) = true := by simpa using hb1
      rw [unq_bad (by rw [head_at _ (by omega)]; intro h; injection h with h; rw [h] at hq; exact hq rfl)]
      generalize s.data.toList.getD 0 0 = c at *
      go_enter Tryd.func19, Tryd.ntmps19
      go_wp2
      go_ret3
      exact ⟨rfl, Below.refl _ _⟩

end Go.Proofs.YtfhpmabejodpbaaDoor
