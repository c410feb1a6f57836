/-
  Walks over Without and Spoil of the reference and over Spoil of package memory. Condition: lists have at most 2^40 elements; for Spoil of memory, the bad addresses ascend.
-/
import Derived.Test.YtjjmgmnhcccjgaaMeI
import Derived.Maps.AppendAt
namespace Go.Proofs.Ytjjmgmnhcccjgaa
open Go.RowKit
set_option linter.unusedSimpArgs false
set_option linter.unusedVariables false
set_option maxHeartbeats 1000000
attribute [local irreducible] wpQuiet

theorem own_snoc {B : Nat} {w : World} {v : Value} {out : List Int} {y : Int} (h : w.ownsRow B 3 1 v (out.length + 1) (out.map (Value.int .i64) ++ [.int .i64 y])) : Own B w v (out ++ [y]) := by
  unfold Own
  rw [List.length_append, List.map_append]
  exact h
theorem without_drop {l : List Int} {k : Nat} {y : Int} (h : l[k]? = some y) (x : Int) : withoutP (l.drop k) x = (if y = x then [] else [y]) ++ withoutP (l.drop (k + 1)) x := by
  have hk : k < l.length := (List.getElem?_eq_some_iff.1 h).1
  rw [List.drop_eq_getElem_cons hk, (List.getElem?_eq_some_iff.1 h).2]
  unfold withoutP
  by_cases e : y = x
  · rw [List.filter_cons_of_neg (by simp [e]), if_pos e]; rfl
  · rw [List.filter_cons_of_pos (by simpa using e), if_neg e]; rfl
theorem ins_drop {l : List Int} {k : Nat} {y : Int} (h : l[k]? = some y) {x : Int} (hy : y < x) : insP x (l.drop k) = y :: insP x (l.drop (k + 1)) := by
  have hk : k < l.length := (List.getElem?_eq_some_iff.1 h).1
  rw [List.drop_eq_getElem_cons hk, (List.getElem?_eq_some_iff.1 h).2, insP, if_pos hy]
theorem ins_stop {l : List Int} {k : Nat} {y : Int} (h : l[k]? = some y) {x : Int} (hy : ¬ y < x) : insP x (l.drop k) = x :: withoutP (l.drop k) x := by
  have hk : k < l.length := (List.getElem?_eq_some_iff.1 h).1
  rw [List.drop_eq_getElem_cons hk, (List.getElem?_eq_some_iff.1 h).2, insP, if_neg hy]; rfl
theorem spoilE_odd {n a : Int} (h : ¬ a % 2 = 0) : spoilE n a = 1 := if_neg h
theorem spoilE_ok {n a : Int} (h : a % 2 = 0) (h0 : 0 ≤ a) (h1 : a < n) : spoilE n a = 0 := by unfold spoilE; rw [if_pos h, if_pos ⟨h0, h1⟩]
theorem spoilE_out {n a : Int} (h : a % 2 = 0) (h0 : ¬ (0 ≤ a ∧ a < n)) : spoilE n a = 2 := by unfold spoilE; rw [if_pos h, if_neg h0]
theorem spoilL_no {n a : Int} {bad : List Int} (h : spoilE n a ≠ 0) : spoilL n bad a = [] := if_neg h
theorem spoilL_ok {n a : Int} {bad : List Int} (h : spoilE n a = 0) : spoilL n bad a = insP a bad := if_pos h

theorem rwithout_any (v : Value) (l : List Int) (hl : l.length ≤ 1099511627776) (x : Int) (w : World) (hv : Nums .i64 w v l) :
    Calls Try.prog 43 #[v, .int .i64 x] w fun e w' => ∃ r, e = .returned r ∧ Own w.heap.size w' r (withoutP l x) ∧ Below w.heap.size w w' := by
  obtain ⟨i0, hti, hz0, hz1, hz2⟩ := info_parts info64
  obtain ⟨A, c, rfl, _, hc⟩ := hv
  go_enter Try.func43, Try.ntmps43
  go_wp2
  go_loopw [5, 6] (fun v i wr => ∃ (k : Nat) (out : List Int), k ≤ l.length ∧ i = .int .i64 k ∧ wr.ownsRow w.heap.size 3 1 v out.length (out.map (Value.int .i64)) ∧ out.length ≤ k ∧ Below w.heap.size w wr ∧ Hid (withoutP l x = out ++ withoutP (l.drop k) x))
    (fun _ i _ => match i with | .int _ q => l.length - q.toNat | _ => 0)
  case atStart => exact ⟨0, [], Nat.zero_le _, rfl, World.ownsRow_nil _ _ _ _, Nat.le_refl _, Below.refl _ _, rfl⟩
  case round =>
    obtain ⟨k, out, hk, rfl, hown, hol, hB, hQ⟩ := hrel
    by_cases hkl : k < l.length
    · have hx := List.getElem?_eq_getElem hkl
      generalize l[k] = y at *
      obtain ⟨a, rfl, hc1, hc2⟩ := hc k y hx
      have hcy := (hB.cell hc2).trans hc1
      have hd := hid (without_drop hx x)
      clear hx hc hc1 hc2
      by_cases hyx : y = x
      · have hyb : (y != x) = false := by simpa using hyx
        replace hyx := hid hyx
        go_wp2
        refine ⟨⟨k + 1, out, by omega, by go_num, hown, by omega, hB, ?_⟩, by simp only; omega⟩
        show _ = _
        rw [show withoutP l x = _ from hQ, show withoutP (List.drop k l) x = _ from hd, if_pos (show y = x from hyx)]; rfl
      · have hyb : (y != x) = true := by simpa using hyx
        replace hyx := hid hyx
        go_wp2_with (first | (at_builtin; refine wpList_append_own _ rfl (.tmp 19) (.tmp 24) 22 rfl w.heap.size 3 i0 (.int .i64 0) 1 8 Try.underlying22 hti hz0 hz1 hz2 rfl (by decide) _ _ _ rfl (World.ownsRow.alloc hown _) ⟨wr.heap.size, 0, none⟩ 1 1 [.int .i64 y] rfl rfl (cell_one_new _ _ _) (fun x hx => by simp at hx; subst hx; rfl) (by unfold maxLen; omega) (by omega) (by have := hB.size; simp; omega) ?_; intro v' w1 hown' hgrow _))
        have hO := own_snoc hown'
        refine ⟨⟨k + 1, out ++ [y], by omega, by go_num, hO, by rw [List.length_append, List.length_singleton]; omega, (hB.alloc hB.size _).grown hgrow (by have := hB.size; simp; omega) (fun j hj => (World.ownsRow.lt hown j hj).1), ?_⟩, by simp only; omega⟩
        show _ = _
        rw [show withoutP l x = _ from hQ, show withoutP (List.drop k l) x = _ from hd, if_neg (show ¬ y = x from hyx), List.append_assoc]
    · obtain rfl : k = l.length := by omega
      have hQ2 : withoutP l x = out := by rw [show withoutP l x = _ from hQ, List.drop_length]; simp [withoutP]
      replace hQ2 := hid hQ2
      clear hc hQ
      go_wp2
      go_ret
      exact ⟨_, rfl, by rw [show withoutP l x = _ from hQ2]; exact hown, hB⟩

set_option maxHeartbeats 4000000 in
theorem rspoil_ok (A : Option Addr) (n cm : Nat) (hn : n ≤ 1099511627776) (v : Value) (l : List Int) (hl : l.length ≤ 1099511627776) (x : Int) (h2 : x % 2 = 0) (h0 : 0 ≤ x) (h1 : x < 2 * (n : Int)) (w : World) (hv : Nums .i64 w v l) :
    Calls Try.prog 21 #[.slice A n cm, v, .int .i64 x] w fun e w' => ∃ r, e = .returned (.tuple #[r, .int .i64 0]) ∧ Own w.heap.size w' r (insP x l) ∧ Below w.heap.size w w' := by
  obtain ⟨i0, hti, hz0, hz1, hz2⟩ := info_parts info64
  obtain ⟨Ab, c, rfl, _, hc⟩ := hv
  go_enter Try.func21, Try.ntmps21
  go_wp2
  clear h2
  go_loopw [8, 9] (fun v i wr => ∃ (k : Nat) (out : List Int), k ≤ l.length ∧ i = .int .i64 k ∧ wr.ownsRow w.heap.size 3 1 v out.length (out.map (Value.int .i64)) ∧ out.length ≤ k ∧ Below w.heap.size w wr ∧ Hid (insP x l = out ++ insP x (l.drop k)))
    (fun _ i _ => match i with | .int _ q => l.length - q.toNat | _ => 0)
  case atStart => exact ⟨0, [], Nat.zero_le _, rfl, World.ownsRow_nil _ _ _ _, Nat.le_refl _, Below.refl _ _, rfl⟩
  case round =>
    obtain ⟨k, out, hk, rfl, hown, hol, hB, hQ⟩ := hrel
    by_cases hkl : k < l.length
    · have hx := List.getElem?_eq_getElem hkl
      generalize l[k] = y at *
      obtain ⟨a, rfl, hc1, hc2⟩ := hc k y hx
      have hcy := (hB.cell hc2).trans hc1
      by_cases hyx : y < x
      · have hd := hid (ins_drop hx hyx)
        clear hx hc hc1 hc2
        go_wp2_with (first | (at_builtin; refine wpList_append_own _ rfl (.tmp 34) (.tmp 39) 22 rfl w.heap.size 3 i0 (.int .i64 0) 1 8 Try.underlying22 hti hz0 hz1 hz2 rfl (by decide) _ _ _ rfl (World.ownsRow.alloc hown _) ⟨wr.heap.size, 0, none⟩ 1 1 [.int .i64 y] rfl rfl (cell_one_new _ _ _) (fun x hx => by simp at hx; subst hx; rfl) (by unfold maxLen; omega) (by omega) (by have := hB.size; simp; omega) ?_; intro v' w1 hown' hgrow _))
        have hO := own_snoc hown'
        refine ⟨⟨k + 1, out ++ [y], by omega, by go_num, hO, by rw [List.length_append, List.length_singleton]; omega, (hB.alloc hB.size _).grown hgrow (by have := hB.size; simp; omega) (fun j hj => (World.ownsRow.lt hown j hj).1), ?_⟩, by simp only; omega⟩
        show _ = _
        rw [show insP x l = _ from hQ, show insP x (List.drop k l) = _ from hd, List.append_assoc]; rfl
      · have hQ : Hid (insP x l = out ++ [x] ++ withoutP (l.drop k) x) := by show _ = _; rw [show insP x l = _ from hQ, ins_stop hx hyx, List.append_assoc]; rfl
        clear hx hc1 hc2
        replace hc := hid hc
        go_wp2_with (first | (at_builtin; refine wpList_append_own _ rfl (.tmp 43) (.tmp 45) 22 rfl w.heap.size 3 i0 (.int .i64 0) 1 8 Try.underlying22 hti hz0 hz1 hz2 rfl (by decide) _ _ _ rfl (World.ownsRow.alloc hown _) ⟨wr.heap.size, 0, none⟩ 1 1 [.int .i64 x] rfl rfl (cell_one_new _ _ _) (fun x hx => by simp at hx; subst hx; rfl) (by unfold maxLen; omega) (by omega) (by have := hB.size; simp; omega) ?_; intro v' w1 hown' hgrow _))
        go_loopw [8, 9] (fun v i wr => ∃ (k : Nat) (out : List Int), k ≤ l.length ∧ i = .int .i64 k ∧ wr.ownsRow w.heap.size 3 1 v out.length (out.map (Value.int .i64)) ∧ out.length ≤ k + 1 ∧ Below w.heap.size w wr ∧ Hid (insP x l = out ++ withoutP (l.drop k) x))
          (fun _ i _ => match i with | .int _ q => l.length - q.toNat | _ => 0)
        case atStart => exact ⟨_, out ++ [x], hk, rfl, own_snoc hown', by rw [List.length_append, List.length_singleton]; omega, (hB.alloc hB.size _).grown hgrow (by have := hB.size; simp; omega) (fun j hj => (World.ownsRow.lt hown j hj).1), hQ⟩
        case round =>
          clear hQ hown hB hol hk hown' hgrow
          obtain ⟨k, out, hk, rfl, hown, hol, hB, hQ⟩ := hrel
          by_cases hkl : k < l.length
          · have hx := List.getElem?_eq_getElem hkl
            generalize l[k] = y at *
            obtain ⟨a, ha, hc1, hc2⟩ := (show _ from hc : ∀ j x, l[j]? = some x → _) k y hx
            cases ha
            have hcy := (hB.cell hc2).trans hc1
            have hd := hid (without_drop hx x)
            clear hx hc1 hc2
            by_cases hyx : y = x
            · have hyb : (y != x) = false := by simpa using hyx
              replace hyx := hid hyx
              go_wp2
              refine ⟨⟨k + 1, out, by omega, by go_num, hown, by omega, hB, ?_⟩, by simp only; omega⟩
              show _ = _
              rw [show insP x l = _ from hQ, show withoutP (List.drop k l) x = _ from hd, if_pos (show y = x from hyx)]; rfl
            · have hyb : (y != x) = true := by simpa using hyx
              replace hyx := hid hyx
              go_wp2_with (first | (at_builtin; refine wpList_append_own _ rfl (.tmp 57) (.tmp 62) 22 rfl w.heap.size 3 i0 (.int .i64 0) 1 8 Try.underlying22 hti hz0 hz1 hz2 rfl (by decide) _ _ _ rfl (World.ownsRow.alloc hown _) ⟨wr.heap.size, 0, none⟩ 1 1 [.int .i64 y] rfl rfl (cell_one_new _ _ _) (fun x hx => by simp at hx; subst hx; rfl) (by unfold maxLen; omega) (by omega) (by have := hB.size; simp; omega) ?_; intro v' w1 hown' hgrow _))
              have hO := own_snoc hown'
              refine ⟨⟨k + 1, out ++ [y], by omega, by go_num, hO, by rw [List.length_append, List.length_singleton]; omega, (hB.alloc hB.size _).grown hgrow (by have := hB.size; simp; omega) (fun j hj => (World.ownsRow.lt hown j hj).1), ?_⟩, by simp only; omega⟩
              show _ = _
              rw [show insP x l = _ from hQ, show withoutP (List.drop k l) x = _ from hd, if_neg (show ¬ y = x from hyx), List.append_assoc]
          · obtain rfl : k = l.length := by omega
            have hQ2 : insP x l = out := by rw [show insP x l = _ from hQ, List.drop_length]; simp [withoutP]
            replace hQ2 := hid hQ2
            clear hQ
            go_wp2
            go_ret2
            exact ⟨_, rfl, by rw [show insP x l = _ from hQ2]; exact hown, hB⟩
    · have hd : insP x (l.drop k) = x :: withoutP (l.drop k) x := by rw [List.drop_eq_nil_of_le (by omega)]; rfl
      have hQ : Hid (insP x l = out ++ [x] ++ withoutP (l.drop k) x) := by show _ = _; rw [show insP x l = _ from hQ, hd, List.append_assoc]; rfl
      have hkk : k = l.length := by omega
      subst hkk
      clear hd
      replace hc := hid hc
      go_wp2_with (first | (at_builtin; refine wpList_append_own _ rfl (.tmp 43) (.tmp 45) 22 rfl w.heap.size 3 i0 (.int .i64 0) 1 8 Try.underlying22 hti hz0 hz1 hz2 rfl (by decide) _ _ _ rfl (World.ownsRow.alloc hown _) ⟨wr.heap.size, 0, none⟩ 1 1 [.int .i64 x] rfl rfl (cell_one_new _ _ _) (fun x hx => by simp at hx; subst hx; rfl) (by unfold maxLen; omega) (by omega) (by have := hB.size; simp; omega) ?_; intro v' w1 hown' hgrow _))
      go_loopw [8, 9] (fun v i wr => ∃ (k : Nat) (out : List Int), k ≤ l.length ∧ i = .int .i64 k ∧ wr.ownsRow w.heap.size 3 1 v out.length (out.map (Value.int .i64)) ∧ out.length ≤ k + 1 ∧ Below w.heap.size w wr ∧ Hid (insP x l = out ++ withoutP (l.drop k) x))
        (fun _ i _ => match i with | .int _ q => l.length - q.toNat | _ => 0)
      case atStart => exact ⟨_, out ++ [x], hk, rfl, own_snoc hown', by rw [List.length_append, List.length_singleton]; omega, (hB.alloc hB.size _).grown hgrow (by have := hB.size; simp; omega) (fun j hj => (World.ownsRow.lt hown j hj).1), hQ⟩
      case round =>
        clear hQ hown hB hol hk hown' hgrow
        obtain ⟨k, out, hk, rfl, hown, hol, hB, hQ⟩ := hrel
        by_cases hkl : k < l.length
        · have hx := List.getElem?_eq_getElem hkl
          generalize l[k] = y at *
          obtain ⟨a, rfl, hc1, hc2⟩ := (show _ from hc : ∀ j x, l[j]? = some x → _) k y hx
          have hcy := (hB.cell hc2).trans hc1
          have hd := hid (without_drop hx x)
          clear hx hc1 hc2
          by_cases hyx : y = x
          · have hyb : (y != x) = false := by simpa using hyx
            replace hyx := hid hyx
            go_wp2
            refine ⟨⟨k + 1, out, by omega, by go_num, hown, by omega, hB, ?_⟩, by simp only; omega⟩
            show _ = _
            rw [show insP x l = _ from hQ, show withoutP (List.drop k l) x = _ from hd, if_pos (show y = x from hyx)]; rfl
          · have hyb : (y != x) = true := by simpa using hyx
            replace hyx := hid hyx
            go_wp2_with (first | (at_builtin; refine wpList_append_own _ rfl (.tmp 57) (.tmp 62) 22 rfl w.heap.size 3 i0 (.int .i64 0) 1 8 Try.underlying22 hti hz0 hz1 hz2 rfl (by decide) _ _ _ rfl (World.ownsRow.alloc hown _) ⟨wr.heap.size, 0, none⟩ 1 1 [.int .i64 y] rfl rfl (cell_one_new _ _ _) (fun x hx => by simp at hx; subst hx; rfl) (by unfold maxLen; omega) (by omega) (by have := hB.size; simp; omega) ?_; intro v' w1 hown' hgrow _))
            have hO := own_snoc hown'
            refine ⟨⟨k + 1, out ++ [y], by omega, by go_num, hO, by rw [List.length_append, List.length_singleton]; omega, (hB.alloc hB.size _).grown hgrow (by have := hB.size; simp; omega) (fun j hj => (World.ownsRow.lt hown j hj).1), ?_⟩, by simp only; omega⟩
            show _ = _
            rw [show insP x l = _ from hQ, show withoutP (List.drop k l) x = _ from hd, if_neg (show ¬ y = x from hyx), List.append_assoc]
        · obtain rfl : k = l.length := by omega
          have hQ2 : insP x l = out := by rw [show insP x l = _ from hQ, List.drop_length]; simp [withoutP]
          replace hQ2 := hid hQ2
          clear hQ
          go_wp2
          go_ret2
          exact ⟨_, rfl, by rw [show insP x l = _ from hQ2]; exact hown, hB⟩

theorem rspoil_any (A : Option Addr) (n cm : Nat) (hn : n ≤ 1099511627776) (v : Value) (l : List Int) (hl : l.length ≤ 1099511627776) (x : Int) (w : World) (hv : Nums .i64 w v l) :
    Calls Try.prog 21 #[.slice A n cm, v, .int .i64 x] w fun e w' => ∃ r, e = .returned (.tuple #[r, .int .i64 (spoilE (2 * (n : Int)) x)]) ∧ Own w.heap.size w' r (spoilL (2 * (n : Int)) l x) ∧ Below w.heap.size w w' := by
  have ht := tmod2 x
  by_cases h2 : x % 2 = 0
  · by_cases h : 0 ≤ x ∧ x < 2 * (n : Int)
    · have e := spoilE_ok h2 h.1 h.2
      rw [spoilL_ok e, e]
      exact rspoil_ok A n cm hn v l hl x h2 h.1 h.2 w hv
    · have e := spoilE_out h2 h
      rw [spoilL_no (by rw [e]; decide), e]
      have h3 : x.tmod 2 = 0 := by rw [ht]; exact h2
      by_cases h0 : 0 ≤ x
      · have h1 : 2 * (n : Int) ≤ x := by omega
        clear h e ht h2
        go_enter Try.func21, Try.ntmps21
        go_wp2
        go_ret2
        exact ⟨_, rfl, Own.nil _ _, Below.refl _ _⟩
      · clear h e ht h2
        go_enter Try.func21, Try.ntmps21
        go_wp2
        go_ret2
        exact ⟨_, rfl, Own.nil _ _, Below.refl _ _⟩
  · have e := spoilE_odd (n := 2 * (n : Int)) h2
    rw [spoilL_no (by rw [e]; decide), e]
    have h3 : ¬ x.tmod 2 = 0 := by rw [ht]; exact h2
    clear e ht h2
    go_enter Try.func21, Try.ntmps21
    go_wp2
    go_ret2
    exact ⟨_, rfl, Own.nil _ _, Below.refl _ _⟩

theorem spoil_any (A : Option Addr) (n cm : Nat) (hn : n ≤ 1099511627776) (v : Value) (l : List Int) (hl : l.length ≤ 1099511627776) (hs : l.Pairwise (· < ·)) (x : Int) (w : World) (hv : Nums .i64 w v l) :
    Calls Try.prog 20 #[.slice A n cm, v, .int .i64 x] w fun e w' => ∃ r, e = .returned (.tuple #[r, .int .i64 (spoilE (2 * (n : Int)) x)]) ∧ Own w.heap.size w' r (spoilL (2 * (n : Int)) l x) ∧ Below w.heap.size w w' := by
  have ho := fun w => odd_any x w
  have hw := fun w => within_any A n cm hn x w
  have hi := with_any v l hl hs x w hv
  clear hv
  by_cases h2 : x % 2 = 0
  · rw [decide_eq_true h2] at ho
    by_cases h : 0 ≤ x ∧ x < 2 * (n : Int)
    · have e := spoilE_ok h2 h.1 h.2
      rw [spoilL_ok e, e]
      have hq : wwP (2 * (n : Int)) x = true := by rw [wwP_eq]; simp [h2, h.1, h.2]
      rw [hq] at hw
      clear h e h2 hq
      go_enter Try.func20, Try.ntmps20
      go_wp2_with (first | (go_at_call 44; with_reducible refine (ho _).mono ?_; rintro e w' ⟨rfl, rfl⟩) | (go_at_call 31; with_reducible refine (hw _).mono ?_; rintro e w' ⟨rfl, rfl⟩) | (go_at_call 45; with_reducible refine hi.mono ?_; rintro e w' ⟨r, rfl, hO, hb⟩))
      go_ret2
      exact ⟨_, rfl, hO, hb⟩
    · have e := spoilE_out h2 h
      rw [spoilL_no (by rw [e]; decide), e]
      have hq : wwP (2 * (n : Int)) x = false := by rw [wwP_eq]; simp; omega
      rw [hq] at hw
      clear h e h2 hq hi
      go_enter Try.func20, Try.ntmps20
      go_wp2_with (first | (go_at_call 44; with_reducible refine (ho _).mono ?_; rintro e w' ⟨rfl, rfl⟩) | (go_at_call 31; with_reducible refine (hw _).mono ?_; rintro e w' ⟨rfl, rfl⟩))
      go_ret2
      exact ⟨_, rfl, Own.nil _ _, Below.refl _ _⟩
  · have e := spoilE_odd (n := 2 * (n : Int)) h2
    rw [spoilL_no (by rw [e]; decide), e]
    rw [decide_eq_false h2] at ho
    clear e h2 hi
    go_enter Try.func20, Try.ntmps20
    go_wp2_with (first | (go_at_call 44; with_reducible refine (ho _).mono ?_; rintro e w' ⟨rfl, rfl⟩))
    go_ret2
    exact ⟨_, rfl, Own.nil _ _, Below.refl _ _⟩
end Go.Proofs.Ytjjmgmnhcccjgaa
