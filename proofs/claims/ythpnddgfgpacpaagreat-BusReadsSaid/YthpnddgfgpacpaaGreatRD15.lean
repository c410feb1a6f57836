import Derived.Test.YthpnddgfgpacpaaGreatRD14
import Derived.Test.YthpnddgfgpacpaaGreatRD00
import Derived.Deep.Draws
/-
  Walks over the calls of package memory and of its reference that read a list of integers: a byte, an element searched, two lists compared, valid memories. Condition: lists have at most 2^40 elements; the searched list ascends.
-/
namespace Go.Proofs.YthpnddgfgpacpaaGreat
open Go.RowKit
set_option linter.unusedSimpArgs false
set_option linter.unusedVariables false
set_option maxHeartbeats 1000000
attribute [local irreducible] wpQuiet

theorem quiet_eq {P : Program} {f : FuncId} {args : Array Value} {w : World} {n : Nat} {v : Value}
    (h : Calls P f args (w.drewN n) fun e w' => e = .returned v ∧ w.drewN n = w') : Calls P f args (w.drewN n) fun e w'' => e = .returned v ∧ ∃ m, w'' = w.drewN m :=
  h.mono fun _ _ ⟨he, hm⟩ => ⟨he, n, hm.symm⟩

/-! ### A byte -/
theorem byte_even {l : List Int} {a : Nat} {x : Int} (h : a % 2 = 0) (hx : l[a / 2]? = some x) : byteN l a = x % 256 := by
  unfold byteN; rw [List.getD_eq_getElem?_getD, hx, h]; simp
theorem byte_odd {l : List Int} {a : Nat} {x : Int} (h : a % 2 = 1) (hx : l[a / 2]? = some x) : byteN l a = x / 256 % 256 := by
  unfold byteN; rw [List.getD_eq_getElem?_getD, hx, h]; simp
theorem byteat_any (v : Value) (l : List Int) (hl : l.length ≤ 1099511627776) (a : Nat) (ha : a < 2 * l.length) (w : World) (hv : Nums .i64 w v l) :
    Calls Tryz.prog 85 #[v, .int .i64 (a : Int)] w fun e w' => e = .returned (.int .i64 (byteN l a)) ∧ Below w.heap.size w w' := by
  obtain ⟨A, c, rfl, _, hc⟩ := hv
  have hk : a / 2 < l.length := by omega
  have hx := List.getElem?_eq_getElem hk
  have e0 := fun h => byte_even (a := a) h hx
  have e1 := fun h => byte_odd (a := a) h hx
  generalize l[a / 2] = x at *
  obtain ⟨p, rfl, hcx, _⟩ := hc _ _ hx
  have hsh := fun w => shift_any a (by omega) w
  have A0 := a255 x
  have A1 := a255 (x / 256)
  have hi : (a : Int) / 2 = ((a / 2 : Nat) : Int) := by omega
  clear hc hx
  rcases Nat.mod_two_eq_zero_or_one a with h | h
  · have hm : (a : Int) % 2 * 8 = 0 := by omega
    rw [hm] at hsh
    rw [e0 h]
    clear e0 e1 h hm A1
    generalize x % 256 = r at *
    generalize hj : a / 2 = j at *
    have hj := hid hj
    go_enter Tryz.func85, Tryz.ntmps85
    go_wp2
    go_quiet ((first | (go_at_call 127; exact quiet_eq (hsh _))))
    go_wp2
    go_ret
    exact ⟨rfl, drewN_below (Below.refl _ _) _⟩
  · have hm : (a : Int) % 2 * 8 = 8 := by omega
    rw [hm] at hsh
    rw [e1 h]
    clear e0 e1 h hm A0
    generalize x / 256 % 256 = r at *
    generalize hj : a / 2 = j at *
    have hj := hid hj
    go_enter Tryz.func85, Tryz.ntmps85
    go_wp2
    go_quiet ((first | (go_at_call 127; exact quiet_eq (hsh _))))
    go_wp2
    go_ret
    exact ⟨rfl, drewN_below (Below.refl _ _) _⟩
theorem rbyte_any (v : Value) (l : List Int) (hl : l.length ≤ 1099511627776) (a : Nat) (ha : a < 2 * l.length) (w : World) (hv : Nums .i64 w v l) :
    Calls Tryz.prog 90 #[v, .int .i64 (a : Int)] w fun e w' => e = .returned (.int .i64 (byteN l a)) ∧ Below w.heap.size w w' := by
  obtain ⟨A, c, rfl, _, hc⟩ := hv
  have hk : a / 2 < l.length := by omega
  have hx := List.getElem?_eq_getElem hk
  have e0 := fun h => byte_even (a := a) h hx
  have e1 := fun h => byte_odd (a := a) h hx
  generalize l[a / 2] = x at *
  obtain ⟨p, rfl, hcx, _⟩ := hc _ _ hx
  have A0 := a255 x
  have A1 := a255 (x / 256)
  have hi : (a : Int) / 2 = ((a / 2 : Nat) : Int) := by omega
  clear hc hx
  rcases Nat.mod_two_eq_zero_or_one a with h | h
  · have hm : (a : Int) % 2 = 0 := by omega
    rw [e0 h]
    clear e0 e1 h A1
    generalize x % 256 = r at *
    generalize hj : a / 2 = j at *
    have hj := hid hj
    go_enter Tryz.func90, Tryz.ntmps90
    go_wp2
    go_ret
    exact ⟨rfl, Below.refl _ _⟩
  · have hm : (a : Int) % 2 = 1 := by omega
    rw [e1 h]
    clear e0 e1 h A0
    generalize x / 256 % 256 = r at *
    generalize hj : a / 2 = j at *
    have hj := hid hj
    go_enter Tryz.func90, Tryz.ntmps90
    go_wp2
    go_ret
    exact ⟨rfl, Below.refl _ _⟩

/-! ### The search -/
theorem cnan_any (x : Int) (w : World) : Calls Tryz.prog 142 #[.int .i64 x] w fun e w' => e = .returned (.bool false) ∧ w = w' := by
  go_enter Tryz.func142, Tryz.ntmps142
  go_wp2
  go_ret
  exact ⟨ret_bool (by simp), rfl⟩
theorem snan_any (x : Int) (w : World) : Calls Tryz.prog 126 #[.int .i64 x] w fun e w' => e = .returned (.bool false) ∧ w = w' := by
  go_enter Tryz.func126, Tryz.ntmps126
  go_wp2
  go_ret
  exact ⟨ret_bool (by simp), rfl⟩
theorem less_any (x y : Int) (w : World) : Calls Tryz.prog 125 #[.int .i64 x, .int .i64 y] w fun e w' => e = .returned (.bool (decide (x < y))) ∧ w = w' := by
  have h := fun w => cnan_any x w
  go_enter Tryz.func125, Tryz.ntmps125
  go_wp2_with (first | (go_at_call 142; with_reducible refine (h _).mono ?_; rintro e w' ⟨rfl, rfl⟩))
  go_ret
  exact ⟨rfl, rfl⟩
theorem search_any (v : Value) (l : List Int) (hl : l.length ≤ 1099511627776) (hs : l.Pairwise (· < ·)) (x : Int) (w : World) (hv : Nums .i64 w v l) :
    Calls Tryz.prog 83 #[v, .int .i64 x] w fun e w' => e = .returned (.tuple #[.int .i64 ((lowN l x : Nat) : Int), .bool (l.contains x)]) ∧ w = w' := by
  obtain ⟨A, c, rfl, _, hc⟩ := hv
  have hless := fun y w => less_any y x w
  have hnan := fun y w => snan_any y w
  have hiff := hid (low_iff (x := x) l hs)
  have hsome := fun y => low_some (x := x) (y := y) l hs
  have hnone := low_none (x := x) l hs
  have hle := low_le x l
  clear hs
  generalize lowN l x = k at *
  replace hnone := hid hnone
  replace hsome := hid hsome
  obtain ⟨Q, hQ⟩ : ∃ Q, Hid (Q = l.contains x) := ⟨_, rfl⟩
  rw [← show Q = l.contains x from hQ]
  go_enter Tryz.func83, Tryz.ntmps83
  go_wp2
  go_loopw [7, 8] (fun p q wr => ∃ lo hi : Nat, p = .int .i64 lo ∧ q = .int .i64 hi ∧ lo ≤ k ∧ k ≤ hi ∧ hi ≤ l.length ∧ w = wr)
    (fun p q _ => match p, q with | .int _ a, .int _ b => (b - a).toNat | _, _ => 0)
  case atStart => exact ⟨0, l.length, rfl, rfl, Nat.zero_le _, hle, Nat.le_refl _, rfl⟩
  case round =>
    obtain ⟨lo, hi, rfl, rfl, hlo, hhi, hin, rfl⟩ := hrel
    by_cases hlt : lo < hi
    · have hx := List.getElem?_eq_getElem (show (lo + hi) / 2 < l.length by omega)
      generalize l[(lo + hi) / 2] = y at *
      have hy := (show ∀ (m : Nat) (y : Int), l[m]? = some y → (y < x ↔ m < k) from hiff) _ _ hx
      obtain ⟨a, rfl, hcy, _⟩ := hc _ _ hx
      clear hx hc
      by_cases hyx : y < x
      · have hmk := hy.1 hyx
        clear hy
        go_wp2_with (first | (go_at_call 125; with_reducible refine (hless _ _).mono ?_; rintro e w' ⟨rfl, rfl⟩))
        refine ⟨⟨(lo + hi) / 2 + 1, hi, by rw [show ((lo : Int) + (hi : Int)) / 2 + 1 = (((lo + hi) / 2 + 1 : Nat) : Int) by omega], rfl, by omega, hhi, hin, by first | rfl | trivial⟩, ?_⟩
        simp only; omega
      · have hmk := mt hy.2 hyx
        clear hy
        go_wp2_with (first | (go_at_call 125; with_reducible refine (hless _ _).mono ?_; rintro e w' ⟨rfl, rfl⟩))
        refine ⟨⟨lo, (lo + hi) / 2, rfl, by rw [show ((lo : Int) + (hi : Int)) / 2 = (((lo + hi) / 2 : Nat) : Int) by omega], hlo, by omega, by omega, by first | rfl | trivial⟩, ?_⟩
        simp only; omega
    · obtain rfl : k = lo := by omega
      obtain rfl : k = hi := by omega
      by_cases hn : k < l.length
      · have hx := List.getElem?_eq_getElem hn
        generalize l[k] = y at *
        have hy := (show ∀ y, l[k]? = some y → l.contains x = decide (y = x) from hsome) _ hx
        obtain ⟨a, rfl, hcy, _⟩ := hc _ _ hx
        have hQ : Hid (Q = decide (y = x)) := by show _ = _; rw [← hy]; exact hQ
        clear hx hc hy hlo hhi
        by_cases hyx : y = x
        · have hQ : Hid (Q = true) := by show _ = _; rw [show Q = _ from hQ]; simp [hyx]
          go_wp2_with (first | (go_at_call 126; with_reducible refine (hnan _ _).mono ?_; rintro e w' ⟨rfl, rfl⟩))
          go_ret2
          exact ⟨by rw [show Q = true from hQ]; first | rfl | simp [*], rfl⟩
        · have hQ : Hid (Q = false) := by show _ = _; rw [show Q = _ from hQ]; simp [hyx]
          go_wp2_with (first | (go_at_call 126; with_reducible refine (hnan _ _).mono ?_; rintro e w' ⟨rfl, rfl⟩))
          go_ret2
          exact ⟨by rw [show Q = false from hQ]; first | rfl | simp [*], rfl⟩
      · have hQ : Hid (Q = false) := by show _ = _; rw [show Q = _ from hQ]; exact (show l.length ≤ k → l.contains x = false from hnone) (by omega)
        clear hc hlo hhi
        go_wp2_with (first | (go_at_call 126; with_reducible refine (hnan _ _).mono ?_; rintro e w' ⟨rfl, rfl⟩))
        go_ret2
        exact ⟨by rw [show Q = false from hQ]; first | rfl | simp [*], rfl⟩
theorem contains_drop {l : List Int} {k : Nat} {y : Int} (h : l[k]? = some y) (x : Int) : (l.drop k).contains x = (decide (y = x) || (l.drop (k + 1)).contains x) := by
  have hk : k < l.length := (List.getElem?_eq_some_iff.1 h).1
  rw [List.drop_eq_getElem_cons hk, (List.getElem?_eq_some_iff.1 h).2, List.contains_cons]
  congr 1
  rw [Bool.eq_iff_iff]; simp; exact eq_comm
theorem has_any (v : Value) (l : List Int) (hl : l.length ≤ 1099511627776) (x : Int) (w : World) (hv : Nums .i64 w v l) :
    Calls Tryz.prog 89 #[v, .int .i64 x] w fun e w' => e = .returned (.bool (l.contains x)) ∧ w = w' := by
  obtain ⟨A, c, rfl, _, hc⟩ := hv
  obtain ⟨Q, hQ⟩ : ∃ Q, Hid (Q = l.contains x) := ⟨_, rfl⟩
  rw [← show Q = l.contains x from hQ]
  go_enter Tryz.func89, Tryz.ntmps89
  go_wp2
  go_loopw [5] (fun i wr => ∃ k : Nat, k ≤ l.length ∧ i = .int .i64 k ∧ wr = w ∧ Hid (Q = (l.drop k).contains x))
    (fun i _ => match i with | .int _ q => l.length - q.toNat | _ => 0)
  case atStart => exact ⟨0, Nat.zero_le _, rfl, rfl, by rw [List.drop_zero]; exact hQ⟩
  case round =>
    clear hQ
    obtain ⟨k, hk, rfl, rfl, hQ⟩ := hrel
    by_cases hkl : k < l.length
    · have hx := List.getElem?_eq_getElem hkl
      generalize l[k] = y at *
      obtain ⟨a, rfl, hcy, _⟩ := hc k y hx
      have hd := hid (contains_drop hx x)
      clear hx hc
      by_cases hyx : y = x
      · subst hyx
        go_wp2
        go_ret
        exact ⟨ret_bool (by rw [show Q = _ from hQ, show _ = _ from hd]; simp), rfl⟩
      · go_wp2
        refine ⟨⟨k + 1, by omega, by go_num, by first | rfl | trivial, ?_⟩, by simp only; omega⟩
        show Q = _
        rw [show Q = _ from hQ, show _ = _ from hd]; simp [hyx]
    · obtain rfl : k = l.length := by omega
      clear hc
      go_wp2
      go_ret
      exact ⟨ret_bool (by rw [show Q = _ from hQ, List.drop_length]; rfl), rfl⟩

/-! ### Two lists -/
theorem same_lists (la lb : List Int) (va vb : Value) (hl : la.length ≤ 1099511627776) (w : World) (ha : Nums .i64 w va la) (hb : Nums .i64 w vb lb) :
    Calls Tryz.prog 98 #[va, vb] w fun e w' => e = .returned (.bool (decide (la = lb))) ∧ Below w.heap.size w w' := by
  obtain ⟨A, ca, rfl, _, hca⟩ := ha
  obtain ⟨B, cb, rfl, _, hcb⟩ := hb
  by_cases hL : la.length = lb.length
  · rw [← hL]
    go_enter Tryz.func98, Tryz.ntmps98
    go_wp2
    go_loopw [5] (fun i wr => ∃ k : Nat, k ≤ la.length ∧ i = .int .i64 k ∧ Below w.heap.size w wr ∧ Hid (∀ j, j < k → la[j]? = lb[j]?))
      (fun i _ => match i with | .int _ q => la.length - q.toNat | _ => 0)
    case atStart => exact ⟨0, Nat.zero_le _, rfl, Below.refl _ _, fun j h => by omega⟩
    case round =>
      obtain ⟨k, hk, rfl, hbr, hall⟩ := hrel
      by_cases hkl : k < la.length
      · have hx := List.getElem?_eq_getElem hkl
        have hy := List.getElem?_eq_getElem (show k < lb.length by omega)
        generalize la[k] = x at *
        generalize lb[k] = y at *
        obtain ⟨a, rfl, ha1, ha2⟩ := hca k x hx
        obtain ⟨b, rfl, hb1, hb2⟩ := hcb k y hy
        have hcx := (hbr.cell ha2).trans ha1
        have hcy := (hbr.cell hb2).trans hb1
        clear hca hcb ha1 hb1 ha2 hb2
        have b0 : (0 : Int) ≤ (k : Int) := by omega
        have b1 : (k : Int) < (la.length : Int) := by omega
        by_cases hxy : x = y
        · subst hxy
          have hx := hid hx
          have hy := hid hy
          go_wp2
          go_quiet (fail)
          go_wp2
          refine ⟨⟨k + 1, by omega, by go_num, drewN_below hbr nq, fun j hj => ?_⟩, ?_⟩
          · rcases Nat.lt_or_ge j k with h | h
            · exact hall j h
            · obtain rfl : j = k := by omega
              exact Eq.trans hx (Eq.symm hy)
          · simp only; omega
        · have hne : decide (la = lb) = false := decide_eq_false (fun h => by rw [h, hy] at hx; exact hxy (Option.some.inj hx).symm)
          have hxb : (x != y) = true := by simpa using hxy
          have hne2 := hid hne
          clear hne hx hy
          go_wp2
          go_quiet (fail)
          go_wp2
          go_ret
          exact ⟨ret_bool (Eq.symm hne2), drewN_below hbr nq⟩
      · have he : la = lb := by
          apply List.ext_getElem?
          intro j
          rcases Nat.lt_or_ge j la.length with h | h
          · exact hall j (by omega)
          · rw [List.getElem?_eq_none h, List.getElem?_eq_none (by omega)]
        clear hca hcb
        go_wp2
        go_ret
        exact ⟨ret_bool (by rw [decide_eq_true he]), hbr⟩
  · have hne : decide (la = lb) = false := decide_eq_false (fun h => hL (by rw [h]))
    have hLi : ((la.length : Int) != (lb.length : Int)) = true := by simp; omega
    rw [hne]
    clear hne hca hcb
    go_enter Tryz.func98, Tryz.ntmps98
    go_wp2
    go_ret
    exact ⟨rfl, Below.refl _ _⟩
end Go.Proofs.YthpnddgfgpacpaaGreat
