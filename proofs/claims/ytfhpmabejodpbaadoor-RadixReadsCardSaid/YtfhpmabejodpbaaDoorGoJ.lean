/-
  Walks over Fields of package radix and over the comparison of two lists of texts. Condition: the text is no longer than 2^32 bytes.
-/
import Derived.Test.YtfhpmabejodpbaaDoorGoB
import Derived.Test.YtfhpmabejodpbaaDoorNumF
import Derived.Test.YtfhpmabejodpbaaDoorShelf
namespace Go.Proofs.YtfhpmabejodpbaaDoor
open Go.RowKit
set_option linter.unusedSimpArgs false

/-- A slice of texts that reads as l. -/
def Txt (w : World) (v : Value) (l : List (List UInt8)) : Prop :=
  (l = [] ∧ ∃ A c, v = .slice A 0 c) ∨ (l ≠ [] ∧ ∃ g c, v = .slice (some ⟨g, 0, none⟩) l.length c ∧ g < w.heap.size ∧ ∀ j x, l[j]? = some x → w.cell? ⟨g, j, none⟩ = some (.string ⟨x.toArray⟩))

theorem Txt.below {w w' : World} {v : Value} {l : List (List UInt8)} (h : Txt w v l) (hb : Below w.heap.size w w') : Txt w' v l := by
  rcases h with h | ⟨hn, g, c, hv, hg, hc⟩
  · exact Or.inl h
  · exact Or.inr ⟨hn, g, c, hv, Nat.lt_of_lt_of_le hg hb.size, fun j x hx => (hb.cell (p := ⟨g, j, none⟩) hg).trans (hc j x hx)⟩
theorem Txt.shape {w : World} {v : Value} {l : List (List UInt8)} (h : Txt w v l) : ∃ A c, v = .slice A l.length c := by
  rcases h with ⟨rfl, A, c, rfl⟩ | ⟨_, g, c, rfl, _⟩
  · exact ⟨A, c, rfl⟩
  · exact ⟨_, c, rfl⟩
def strV (x : List UInt8) : Value := .string ⟨x.toArray⟩
theorem Txt.of_own {w : World} {base n : Nat} {v : Value} {l : List (List UInt8)} (h : w.ownsRow base 9 1 v n (l.map strV)) : Txt w v l := by
  have hl := h.1
  rw [List.length_map, Nat.mul_one] at hl
  subst hl
  rcases h.2 with ⟨rfl, h0⟩ | ⟨g, cap, cur, rfl, hb, hh, hnc, _, hcs, _⟩
  · exact Or.inl ⟨List.eq_nil_of_length_eq_zero h0, none, 0, rfl⟩
  · by_cases hn : l = []
    · subst hn; exact Or.inl ⟨rfl, _, cap, rfl⟩
    · refine Or.inr ⟨hn, g, cap, rfl, ?_, fun j x hx => ?_⟩
      · rcases Nat.lt_or_ge g w.heap.size with h' | h'
        · exact h'
        · rw [Array.getElem?_eq_none h'] at hh; cases hh
      · have hj : j < l.length := (List.getElem?_eq_some_iff.1 hx).1
        have hc := h.cellAt j (by omega)
        rw [hc, List.getElem?_map, hx]; rfl

theorem drewN_below {B : Nat} {a w : World} (h : Below B a w) (q : Nat) : Below B a (w.drewN q) := ⟨h.os, h.tape, h.output, h.size, h.block⟩
theorem same_step {la lb : List (List UInt8)} {k : Nat} {x y : List UInt8} (hx : la[k]? = some x) (hy : lb[k]? = some y) (h : la.take k = lb.take k) (hxy : x = y) : la.take (k + 1) = lb.take (k + 1) := by
  rw [List.take_add_one, List.take_add_one, h, hx, hy, hxy]
theorem same_diff {la lb : List (List UInt8)} {k : Nat} {x y : List UInt8} (hx : la[k]? = some x) (hy : lb[k]? = some y) (hxy : x ≠ y) : (la == lb) = false := by
  rw [beq_eq_false_iff_ne]
  rintro rfl
  exact hxy (Option.some.inj (hx.symm.trans hy))

set_option maxHeartbeats 1000000 in
theorem same_any (la lb : List (List UInt8)) (va vb : Value) (hla : la.length ≤ 100000) (w : World) (ha : Txt w va la) (hb : Txt w vb lb) :
    Calls Tryd.prog 16 #[va, vb] w fun e w' => e = .returned (.bool (la == lb)) ∧ Below w.heap.size w w' := by
  by_cases hl : la.length = lb.length
  · by_cases hn : la = []
    · subst hn
      have hlb : lb = [] := List.eq_nil_of_length_eq_zero (by rw [← hl]; rfl)
      subst hlb
      obtain ⟨A, ca, rfl⟩ := ha.shape
      obtain ⟨B, cb, rfl⟩ := hb.shape
      simp only [List.length_nil]
      go_enter Tryd.func16, Tryd.ntmps16
      go_wp2
      refine wp_loop_rounds 1 ?_
      rw [rounds_succ]
      go_wp2
      go_ret
      exact ⟨rfl, Below.refl _ _⟩
    · have hnb : lb ≠ [] := by rintro rfl; exact hn (List.eq_nil_of_length_eq_zero hl)
      rcases ha with ⟨h, _⟩ | ⟨_, ga, ca, rfl, hga, hca⟩
      · exact absurd h hn
      rcases hb with ⟨h, _⟩ | ⟨_, gb, cb, rfl, hgb, hcb⟩
      · exact absurd h hnb
      rw [← hl]
      go_enter Tryd.func16, Tryd.ntmps16
      go_wp2
      go_loopw [5] (fun i wr => ∃ k : Nat, k ≤ la.length ∧ i = .int .i64 k ∧ Hid (la.take k = lb.take k) ∧ Below w.heap.size w wr)
        (fun i _ => match i with | .int _ q => la.length - q.toNat | _ => 0)
      case atStart => exact ⟨0, Nat.zero_le _, rfl, by unfold Hid; simp, Below.refl _ _⟩
      case round =>
        obtain ⟨k, hk, rfl, HS, hbr⟩ := hrel
        by_cases hkl : k < la.length
        · have hx := List.getElem?_eq_getElem hkl
          have hy := List.getElem?_eq_getElem (l := lb) (i := k) (by omega)
          have hcx := (hbr.cell (p := ⟨ga, k, none⟩) hga).trans (hca k _ hx)
          have hcy := (hbr.cell (p := ⟨gb, k, none⟩) hgb).trans (hcb k _ hy)
          have hD := @same_diff la lb k _ _ hx hy
          have hE := @same_step la lb k _ _ hx hy HS
          generalize la[k] = x at *
          generalize lb[k]'(by omega) = y at *
          clear hca hcb hx hy
          go_wp2
          go_quiet (fail)
          go_wp2
          · have hb : (!x == y) = true := by assumption
            have hne : x ≠ y := by simpa using hb
            go_ret
            exact ⟨by rw [hD hne]; rfl, drewN_below hbr nq⟩
          · have hb : (!x == y) = false := by assumption
            have heq : x = y := by simpa using hb
            refine ⟨⟨k + 1, by omega, by go_num, hE heq, drewN_below hbr nq⟩, ?_⟩
            simp only; omega
        · have he : Hid ((la == lb) = true) := by
            have H : la.take k = lb.take k := HS
            rw [List.take_of_length_le (by omega), List.take_of_length_le (by omega)] at H
            unfold Hid; rw [H]; simp
          clear HS
          go_wp2
          go_ret
          exact ⟨by unfold Hid at he; rw [he]; rfl, hbr⟩
  · have hf : (la == lb) = false := by rw [beq_eq_false_iff_ne]; rintro rfl; exact hl rfl
    rw [hf]
    obtain ⟨A, ca, rfl⟩ := ha.shape
    obtain ⟨B, cb, rfl⟩ := hb.shape
    have hl1 : ¬ (la.length : Int) = (lb.length : Int) := by omega
    go_enter Tryd.func16, Tryd.ntmps16
    go_wp2
    go_ret
    exact ⟨rfl, Below.refl _ _⟩

set_option maxHeartbeats 400000 in
theorem isBlank_any (r : Nat) (w : World) : Calls Tryd.prog 30 #[.int .i32 r] w fun e w' => e = .returned (.bool (blkR r)) ∧ w' = w.drewN 0 := by
  unfold blkR
  go_enter Tryd.func30, Tryd.ntmps30
  go_wp2
  all_goals go_ret
  all_goals refine ⟨ret_bool ?_, rfl⟩
  all_goals (rw [Bool.eq_iff_iff]; simp only [Bool.or_eq_true, beq_iff_eq]; constructor <;> intro hh <;> first | trivial | omega)

theorem fields_list (s : ByteArray) : (Lib.goFieldsP blkR s).map Value.string = (flds s.data.toList).map strV := by
  rw [← goFields_flds, List.map_map]
  refine List.map_congr_left fun x _ => ?_
  simp [strV]

set_option maxHeartbeats 400000 in
theorem fields_any (s : ByteArray) (hs : s.size ≤ 4294967296) (w : World) :
    Calls Tryd.prog 15 #[.string s] w fun e w' => ∃ v, e = .returned v ∧ Txt w' v (flds s.data.toList) ∧ Below w.heap.size w w' := by
  have hp : PredAt Tryd.prog 30 #[] encR blkR w := fun W r _ => by
    unfold FnGives
    exact (isBlank_any r W).mono fun e w' h => ⟨h.1, 0, h.2⟩
  have hF := Tryd.strings_FieldsFunc_runes 30 #[] (enters_of Tryd.func30 (by kernel_rfl) rfl) blkR s w hs hp.runes
  rw [fields_list] at hF
  generalize (Lib.goFieldsP blkR s).length = n at *
  go_enter Tryd.func15, Tryd.ntmps15
  go_wp2_with (first | (go_at_call 29; refine hF.mono ?_; rintro e w1 ⟨A, rfl, hA, hown, hb⟩))
  go_ret
  exact ⟨_, rfl, Txt.of_own hown, hb⟩

end Go.Proofs.YtfhpmabejodpbaaDoor
