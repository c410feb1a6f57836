/-
  Walks over GetWords of package octet and of its reference, and over the comparison of two lists of integers. Condition: texts have at most 2^40 bytes, lists at most 2^40 elements.
-/
import Derived.Test.YtbcnehjpondplaaDoorOcF
import Derived.Deep.AppendLies
namespace Go.Proofs.YtbcnehjpondplaaDoor
open Go.RowKit
set_option linter.unusedSimpArgs false

theorem info64 : (Tryd.prog.info? 3).map (fun i => (i.zero, i.size, i.bytes)) = some (some (.int .i64 0), 1, 8) := by kernel_rfl

/-! ### Plain -/
/-- Word j of bytes. -/
def gw (l : List UInt8) (j : Nat) : Nat := getN ((l.drop (2 * j)).take 2)
def gwds (l : List UInt8) : List Int := (List.range (l.length / 2)).map fun j => (gw l j : Int)
theorem gwds_length (l : List UInt8) : (gwds l).length = l.length / 2 := by simp [gwds]
theorem gwds_at {l : List UInt8} {j : Nat} (h : j < l.length / 2) : (gwds l)[j]? = some (gw l j : Int) := by simp [gwds, h]
theorem gw_lt (l : List UInt8) (j : Nat) : gw l j ≤ 65535 := get2_lt l (2 * j)
theorem gw_two {l : List UInt8} {p j : Nat} (hp : p = 2 * j) (h : p + 1 < l.length) : gw l j = (l.getD p 0).toNat + 256 * (l.getD (p + 1) 0).toNat := by
  subst hp
  unfold gw
  rw [drop_at _ _ (show 2 * j < l.length by omega), drop_at _ _ h]
  simp [getN]
theorem gwds_step {l : List UInt8} {k : Nat} (h : k < l.length / 2) : (gwds l).take (k + 1) = (gwds l).take k ++ [(gw l k : Int)] := by
  rw [List.take_add_one, gwds_at h]; rfl
theorem putW_drop : ∀ (l : List Nat) (j : Nat), (putW l).drop (2 * j) = putW (l.drop j)
  | l, 0 => by simp
  | [], j + 1 => by simp [putW]
  | n :: l, j + 1 => by
    rw [putW, List.drop_succ_cons, ← putW_drop l j, show 2 * (j + 1) = (putN n 2).length + 2 * j by rw [putN_length]; omega, List.drop_append]
    rw [List.drop_eq_nil_of_le (by omega), List.nil_append, Nat.add_sub_cancel_left]
/-- What was put is got back. -/
theorem gwds_pwds (l : List Int) (h : ∀ x ∈ l, 0 ≤ x ∧ x ≤ 65535) : gwds (pwds l) = l := by
  apply List.ext_getElem?
  intro j
  by_cases hj : j < l.length
  · rw [gwds_at (by rw [pwds_length]; omega), List.getElem?_eq_getElem hj]
    congr 1
    have hx := h _ (List.getElem_mem hj)
    unfold gw pwds
    rw [putW_drop, ← List.map_drop, List.drop_eq_getElem_cons hj, List.map_cons, putW, List.take_append_of_le_length (by rw [putN_length]; omega), List.take_of_length_le (by rw [putN_length]; omega)]
    rw [getN_put (by have := wrd_lt l[j]; have : 256 ^ 2 = 65536 := by decide
                     omega)]
    unfold wrd; omega
  · rw [List.getElem?_eq_none (l := l) (by omega), List.getElem?_eq_none (by rw [gwds_length, pwds_length]; omega)]

theorem Nums.of_row {q : IntKind} {w : World} {B n c : Nat} {t : TypeId} {f : Nat → Value} {l : List Int} (h : w.rowIs B t n f) (hl : l.length = n) (hf : ∀ j x, l[j]? = some x → f j = .int q x) : Nums q w (.slice (some ⟨B, 0, none⟩) n c) l := by
  subst hl
  refine ⟨_, c, rfl, fun j x hx => ⟨_, rfl, ?_⟩⟩
  have hj : j < l.length := (List.getElem?_eq_some_iff.1 hx).1
  have e1 : (⟨B, 0, none⟩ : Addr).add j = ⟨B, j, none⟩ := by unfold Addr.add; split <;> simp_all
  rw [e1, h.cell hj, hf j x hx]
  exact ⟨rfl, h.lt⟩
theorem Nums.of_own {q : IntKind} {w : World} {base n : Nat} {t : TypeId} {v : Value} {l : List Int} (h : w.ownsRow base t 1 v n (l.map (Value.int q))) : Nums q w v l := by
  have hl := h.1
  rw [List.length_map, Nat.mul_one] at hl
  subst hl
  rcases h.2 with ⟨rfl, h0⟩ | ⟨g, cap, cur, rfl, hb, hh, hnc, _, hcs, _⟩
  · have : l = [] := List.eq_nil_of_length_eq_zero h0
    subst this
    exact ⟨none, 0, rfl, fun j x hx => by simp at hx⟩
  · refine ⟨_, cap, rfl, fun j x hx => ⟨_, rfl, ?_⟩⟩
    have hj : j < l.length := (List.getElem?_eq_some_iff.1 hx).1
    have e1 : (⟨g, 0, none⟩ : Addr).add j = ⟨g, j, none⟩ := by unfold Addr.add; split <;> simp_all
    have hc := h.cellAt j (by omega)
    rw [e1, hc, List.getElem?_map, hx]
    refine ⟨rfl, ?_⟩
    show g < w.heap.size
    rcases Nat.lt_or_ge g w.heap.size with h' | h'
    · exact h'
    · rw [Array.getElem?_eq_none h'] at hh; cases hh
theorem row_stepG {A n k : Nat} {t : TypeId} {g : Nat → Value} {z : Value} {w : World} (h : w.rowIs A t n (fun j => if j < k then g j else z)) (v : Value) (hv : v = g k) :
    (w.setCell ⟨A, k, none⟩ v).rowIs A t n (fun j => if j < k + 1 then g j else z) := by
  refine (h.set k v).congr fun j _ => ?_
  by_cases hjk : j = k
  · simp [hjk, hv]
  · simp only [if_neg hjk, show (j < k + 1) = (j < k) by apply propext; omega]

set_option maxHeartbeats 1000000

theorem getw_odd (s : ByteArray) (hs : s.size ≤ 1099511627776) (h : s.size % 2 ≠ 0) (w : World) :
    Calls Tryd.prog 19 #[.string s] w fun e w' => e = .returned (.tuple #[.slice none 0 0, .int .i64 9]) ∧ Below w.heap.size w w' := by
  go_enter Tryd.func19, Tryd.ntmps19
  go_wp2
  go_ret2
  exact ⟨rfl, Below.refl _ _⟩
theorem getw_even (s : ByteArray) (n : Nat) (hn : s.size = 2 * n) (hs : s.size ≤ 1099511627776) (w : World) :
    Calls Tryd.prog 19 #[.string s] w fun e w' => ∃ v, e = .returned (.tuple #[v, .int .i64 0]) ∧ Nums .i64 w' v (gwds s.data.toList) ∧ Below w.heap.size w w' := by
  have hsz := size_len s
  have hmk := run_make_row' (P := Tryd.prog) 34 3 (.int .i64 0) 8 Tryd.underlying34 info64 rfl .i64 .i64 n (by omega) (by omega)
  go_enter Tryd.func19, Tryd.ntmps19
  go_wp2
  go_loopw [16] (fun i wr => ∃ k : Nat, k ≤ n ∧ i = .int .i64 k ∧ wr.rowIs w.heap.size 3 n (fun j => if j < k then .int .i64 (gw s.data.toList j : Int) else .int .i64 0) ∧ Below w.heap.size w wr)
    (fun i _ => match i with | .int _ q => n - q.toNat | _ => 0)
  case atStart => exact ⟨0, Nat.zero_le _, rfl, (World.rowIs_made _ _ _ _).congr (fun j _ => by simp), (Below.refl _ _).alloc (Nat.le_refl _) _⟩
  case round =>
    obtain ⟨k, hk, rfl, hrow, hB⟩ := hrel
    by_cases hkl : k < n
    · have hxl : (s.extract (2 * k) (2 * (k + 1))).data.toList = (s.data.toList.drop (2 * k)).take 2 := by
        rw [cut_list, show 2 * (k + 1) - 2 * k = 2 by omega]
      have hnum := fun w => number_any (s.extract (2 * k) (2 * (k + 1))) (by rw [← size_len, hxl, List.length_take]; omega) w
      rw [hxl] at hnum
      have hG : Hid (gw s.data.toList k = getN ((s.data.toList.drop (2 * k)).take 2)) := rfl
      generalize getN ((s.data.toList.drop (2 * k)).take 2) = G at *
      have hcell := hrow.cell hkl
      have hfr := hrow.frozen k
      clear hxl
      go_wp2_with (first | (go_at_call 31; with_reducible refine (hnum _).mono ?_; rintro e w' ⟨rfl, rfl⟩))
      refine ⟨⟨k + 1, by omega, by go_num, row_stepG hrow _ (by rw [show gw s.data.toList k = G from hG]), hB.setCell (Nat.le_refl _) _⟩, by simp only; omega⟩
    · obtain rfl : k = n := by omega
      have hNm := Nums.of_row (q := .i64) (c := k) (l := gwds s.data.toList) hrow (by rw [gwds_length]; omega) (fun j x hx => by
        have hj : j < s.data.toList.length / 2 := by rw [← gwds_length]; exact (List.getElem?_eq_some_iff.1 hx).1
        rw [gwds_at hj] at hx
        rw [if_pos (by omega), Option.some.inj hx])
      go_wp2
      go_ret2
      exact ⟨_, rfl, hNm, hB⟩

/-- What GetWords returns: the words, or none and the error. -/
def gwE (l : List UInt8) : Int := if l.length % 2 = 0 then 0 else 9
def gwL (l : List UInt8) : List Int := if l.length % 2 = 0 then gwds l else []
theorem Nums.nil (q : IntKind) (w : World) : Nums q w (.slice none 0 0) [] := ⟨none, 0, rfl, fun j x hx => by simp at hx⟩
theorem getw_any (s : ByteArray) (hs : s.size ≤ 1099511627776) (w : World) :
    Calls Tryd.prog 19 #[.string s] w fun e w' => ∃ v, e = .returned (.tuple #[v, .int .i64 (gwE s.data.toList)]) ∧ Nums .i64 w' v (gwL s.data.toList) ∧ Below w.heap.size w w' := by
  have hsz := size_len s
  by_cases h : s.size % 2 = 0
  · have e1 : gwE s.data.toList = 0 := if_pos (by omega)
    have e2 : gwL s.data.toList = gwds s.data.toList := if_pos (by omega)
    rw [e1, e2]
    exact getw_even s (s.size / 2) (by omega) hs w
  · have e1 : gwE s.data.toList = 9 := if_neg (by omega)
    have e2 : gwL s.data.toList = [] := if_neg (by omega)
    rw [e1, e2]
    exact (getw_odd s hs h w).mono fun e w' ⟨he, hb⟩ => ⟨_, he, Nums.nil _ _, hb⟩

/-! ### GetWords of the reference -/
theorem rgetw_odd (s : ByteArray) (hs : s.size ≤ 1099511627776) (h : s.size % 2 ≠ 0) (w : World) :
    Calls Tryd.prog 20 #[.string s] w fun e w' => e = .returned (.tuple #[.slice none 0 0, .int .i64 9]) ∧ Below w.heap.size w w' := by
  go_enter Tryd.func20, Tryd.ntmps20
  go_wp2
  go_ret2
  exact ⟨rfl, Below.refl _ _⟩
theorem rgetw_even (s : ByteArray) (n : Nat) (hn : s.size = 2 * n) (hs : s.size ≤ 1099511627776) (w : World) :
    Calls Tryd.prog 20 #[.string s] w fun e w' => ∃ v, e = .returned (.tuple #[v, .int .i64 0]) ∧ Nums .i64 w' v (gwds s.data.toList) ∧ Below w.heap.size w w' := by
  have hsz := size_len s
  obtain ⟨i0, hi, hz0, hz1, hz2⟩ := info_parts info64
  go_enter Tryd.func20, Tryd.ntmps20
  go_wp2
  go_loopw [4, 5] (fun v i wr => ∃ k : Nat, k ≤ n ∧ i = .int .i64 ((2 * k : Nat) : Int) ∧ wr.ownsRow w.heap.size 3 1 v k (((gwds s.data.toList).take k).map (Value.int .i64)) ∧ Below w.heap.size w wr)
    (fun _ i _ => match i with | .int _ q => 2 * n - q.toNat | _ => 0)
  case atStart => exact ⟨0, Nat.zero_le _, rfl, World.ownsRow_nil _ _ _ _, Below.refl _ _⟩
  case round =>
    obtain ⟨k, hk, rfl, hown, hB⟩ := hrel
    by_cases hkl : k < n
    · obtain ⟨p, hp⟩ : ∃ p, p = 2 * k := ⟨_, rfl⟩
      have hst := hid (gwds_step (l := s.data.toList) (k := k) (by omega))
      have hg := gw_two (l := s.data.toList) (j := k) hp (by omega)
      have hix : ∀ h : p < s.size, s[p]'h = s.data.toList.getD p 0 := fun h => byte_at s p h
      have hix1 : ∀ h : p + 1 < s.size, s[p + 1]'h = s.data.toList.getD (p + 1) 0 := fun h => byte_at s (p + 1) h
      generalize s.data.toList.getD p 0 = c0 at *
      generalize s.data.toList.getD (p + 1) 0 = c1 at *
      generalize gw s.data.toList k = G at *
      rw [← hp]
      have hp1 : p + 1 < 2 * n := by omega
      have hP := hid hp
      clear hp
      have b0 : (0 : Int) ≤ (p : Int) := by omega
      have b1 : (p : Int) < (s.size : Int) := by omega
      have b2 : (0 : Int) ≤ (p : Int) + 1 := by omega
      have b3 : (p : Int) + 1 < (s.size : Int) := by omega
      have hc0 := UInt8.toNat_lt c0
      have hc1 := UInt8.toNat_lt c1
      have e2 : (2 : Int) ^ 62 = 4611686018427387904 := by decide
      have v1 : IntKind.i64.wrap ((p : Int) + 1) = (p : Int) + 1 := wraps_i64 _ (by omega) (by omega)
      have v2 : IntKind.i64.wrap (c0.toNat : Int) = (c0.toNat : Int) := wraps_i64 _ (by omega) (by omega)
      have v3 : IntKind.i64.wrap (c1.toNat : Int) = (c1.toNat : Int) := wraps_i64 _ (by omega) (by omega)
      have v4 : IntKind.i64.wrap (256 * (c1.toNat : Int)) = 256 * (c1.toNat : Int) := wraps_i64 _ (by omega) (by omega)
      have v5 : IntKind.i64.wrap ((c0.toNat : Int) + 256 * (c1.toNat : Int)) = (c0.toNat : Int) + 256 * (c1.toNat : Int) := wraps_i64 _ (by omega) (by omega)
      clear e2
      go_wp2
      go_region_held3 (fun w' => True) (trivial)
        ((refine step_append_lies _ (by rfl) (.tmp 16) (.tmp 28) 34 (by rfl) w.heap.size 3 i0 (.int .i64 0) 1 8 Tryd.underlying34 hi hz0 hz1 hz2 rfl (by decide) _ k _ (by rfl) ((hown.alloc _).drew) ⟨wr.heap.size, 0, none⟩ 1 1 [.int .i64 ((c0.toNat : Int) + 256 * (c1.toNat : Int))] (by rfl) (by rfl) (World.news_of_block (cs := #[.int .i64 ((c0.toNat : Int) + 256 * (c1.toNat : Int))]) (t := 3) (fr := (0, 0)) (heap_alloc_new wr _)) (by simp [Value.oneCell'])
               (by omega) (by unfold maxLen; omega) (by omega) (by have := hB.size; simp; omega) (wr.heap.size + 1) (by simp) ?_; intro gg cap w1 hown1 hgrow hat hlt))
      all_goals
        go_wp2
        refine ⟨⟨k + 1, by omega, ?_, ?_, ((hB.alloc hB.size _).drew).grown hgrow (by have := hB.size; simp; omega) (fun j hj => (hown.lt j hj).1)⟩, ?_⟩
        · unfold Hid at hP; subst hP; go_num
        · unfold Hid at hst
          rw [hst, List.map_append, List.map_cons, List.map_nil, hg]
          have e : ((c0.toNat + 256 * c1.toNat : Nat) : Int) = (c0.toNat : Int) + 256 * (c1.toNat : Int) := by omega
          rw [e]
          exact hown1
        · simp only; omega
    · obtain rfl : k = n := by omega
      rw [List.take_of_length_le (by rw [gwds_length]; omega)] at hown
      have hNm := Nums.of_own hown
      go_wp2
      go_ret2
      exact ⟨_, rfl, hNm, hB⟩

end Go.Proofs.YtbcnehjpondplaaDoor
