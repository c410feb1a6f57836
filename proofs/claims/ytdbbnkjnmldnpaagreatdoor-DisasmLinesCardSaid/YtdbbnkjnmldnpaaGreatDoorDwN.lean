/-
  Walk over Lines of package disasm. Conditions: the tables read as the program's text lays them; the list has at most 2^32 elements.
-/
import Derived.Test.YtdbbnkjnmldnpaaGreatDoorMJ
import Derived.Test.YtdbbnkjnmldnpaaGreatDoorJK
namespace Go.Proofs.YtdbbnkjnmldnpaaGreatDoor
open Go.RowKit
set_option linter.unusedSimpArgs false
set_option linter.unusedVariables false
set_option maxHeartbeats 8000000
set_option maxRecDepth 100000

/-- A slice of texts that reads as l. -/
def Txt (w : World) (v : Value) (l : List (List UInt8)) : Prop :=
  ∃ A c, v = .slice A l.length c ∧ ∀ j x, l[j]? = some x → ∃ g, A = some ⟨g, 0, none⟩ ∧ g < w.heap.size ∧ w.cell? ⟨g, j, none⟩ = some (.string ⟨x.toArray⟩)
theorem Txt.below {w w' : World} {v : Value} {l : List (List UInt8)} (h : Txt w v l) (hb : Below w.heap.size w w') : Txt w' v l := by
  obtain ⟨A, c, hv, hc⟩ := h
  refine ⟨A, c, hv, fun j x hx => ?_⟩
  obtain ⟨g, h1, h2, h3⟩ := hc j x hx
  exact ⟨g, h1, Nat.lt_of_lt_of_le h2 hb.size, (hb.cell (p := ⟨g, j, none⟩) h2).trans h3⟩
def strV (x : List UInt8) : Value := .string ⟨x.toArray⟩
theorem Txt.of_own {w : World} {base n : Nat} {v : Value} {l : List (List UInt8)} (h : w.ownsRow base 9 1 v n (l.map strV)) : Txt w v l := by
  have hl := h.1
  rw [List.length_map, Nat.mul_one] at hl
  subst hl
  rcases h.2 with ⟨rfl, h0⟩ | ⟨g, cap, cur, rfl, hb, hh, hnc, _, hcs, _⟩
  · have := List.eq_nil_of_length_eq_zero h0
    subst this
    exact ⟨none, 0, rfl, fun j x hx => by simp at hx⟩
  · refine ⟨_, cap, rfl, fun j x hx => ⟨g, rfl, ?_, ?_⟩⟩
    · rcases Nat.lt_or_ge g w.heap.size with h' | h'
      · exact h'
      · rw [Array.getElem?_eq_none h'] at hh; cases hh
    · have hj : j < l.length := (List.getElem?_eq_some_iff.1 hx).1
      have hc := h.cellAt j (by omega)
      rw [hc, List.getElem?_map, hx]; rfl
theorem strV_snoc (l : List (List UInt8)) (x : List UInt8) : l.map strV ++ [.string ⟨x.toArray⟩] = (l ++ [x]).map strV := by simp [strV]
theorem add_add (a : Addr) (n j : Nat) : (a.add n).add j = a.add (n + j) := by
  unfold Addr.add
  by_cases hn : n = 0
  · subst hn; simp
  · by_cases hj : j = 0
    · subst hj; simp
    · rw [if_neg hn, if_neg hj, if_neg (by omega)]
      simp [Nat.add_assoc]
theorem Nums.drop {q : IntKind} {w : World} {a : Addr} {l : List Int} {c : Nat} (h : Nums q w (.slice (some a) l.length c) l) (n : Nat) (hn : n ≤ l.length) : Nums q w (.slice (some (a.add n)) (l.length - n) (c - n)) (l.drop n) := by
  obtain ⟨A, c', hv, hc, hcell⟩ := h
  cases hv
  refine ⟨some (a.add n), c - n, by rw [List.length_drop], by rw [List.length_drop]; omega, fun j x hx => ⟨a.add n, rfl, ?_⟩⟩
  rw [List.getElem?_drop] at hx
  obtain ⟨a', ha, h1, h2⟩ := hcell (n + j) x hx
  cases ha
  rw [add_add]
  exact ⟨h1, h2⟩
theorem Nums.cut {q : IntKind} {w : World} {a : Addr} {l : List Int} {c : Nat} (h : Nums q w (.slice (some a) l.length c) l) (n : Nat) (hn : n ≤ l.length) : Nums q w (.slice (if c = n then some a else some (a.add n)) (l.length - n) (c - n)) (l.drop n) := by
  split
  · next e =>
    obtain ⟨A, c', hv, hc, _⟩ := h
    cases hv
    have hd : l.drop n = [] := List.drop_eq_nil_of_le (by omega)
    rw [hd]
    exact ⟨some a, c - n, by rw [show l.length - n = 0 by omega]; rfl, Nat.zero_le _, fun j x hx => by simp at hx⟩
  · exact h.drop n hn
theorem infoS : (Tryz.prog.info? 9).map (fun i => (i.zero, i.size, i.bytes)) = some (some (.string ⟨#[]⟩), 1, 16) := by kernel_rfl
theorem Nums.head {q : IntKind} {w : World} {v : Value} {l : List Int} (h : Nums q w v l) (hne : 0 < l.length) : ∃ a c, v = .slice (some a) l.length c ∧ l.length ≤ c := by
  obtain ⟨A, c, rfl, hc, hcell⟩ := h
  obtain ⟨a, rfl, _⟩ := hcell 0 _ (List.getElem?_eq_getElem hne)
  exact ⟨a, c, rfl, hc⟩

theorem dlines_any (l : List Int) (v : Value) (a : Int) (hl : l.length ≤ 4294967296) {A : Addr} {c : Nat} (W0 : World) (W : Dis A c W0) (hv : Nums .i64 W0 v l) :
    Calls Tryz.prog 5 #[v, .int .i64 a] W0 fun e w' => ∃ u, e = .returned u ∧ Txt w' u (lnT l.length l a) ∧ Below W0.heap.size W0 w' := by
  obtain ⟨i0, hi, hz0, hz1, hz2⟩ := info_parts infoS
  have hv0 := hv
  obtain ⟨A1, c1, rfl, _, _⟩ := hv0
  go_enter Tryz.func5, Tryz.ntmps5
  go_wp2
  go_loopw [0, 1, 5] (fun v p q wr => ∃ (l' : List Int) (a' : Int) (out : List (List UInt8)), Nums .i64 W0 v l' ∧ p = .int .i64 a' ∧ wr.ownsRow W0.heap.size 9 1 q out.length (out.map strV) ∧ Below W0.heap.size W0 wr ∧ out.length + l'.length ≤ l.length ∧ Hid (out ++ lnT l'.length l' a' = lnT l.length l a))
    (fun v _ _ _ => match v with | .slice _ n _ => n | _ => 0)
  case atStart => exact ⟨l, a, [], hv, rfl, World.ownsRow_nil _ _ _ _, Below.refl _ _, by simp, rfl⟩
  case round =>
    obtain ⟨l', a', out, hv', rfl, hown, hbr, hlen, HS⟩ := hrel
    by_cases hne : 0 < l'.length
    · obtain ⟨a1, c2, rfl, hc2⟩ := hv'.head hne
      have hr := fsT_rng l' a' hne
      have hfl := fsT_len l' a'
      have hal := adT_len a'
      have H : out ++ lnT l'.length l' a' = lnT l.length l a := HS
      rw [lnT_step l' a' hne] at H
      have hdrop := hv'.cut (fsT l' a').2 hr.2.2
      have hf := fun w D (h : Nums .i64 w (.slice (some a1) l'.length c2) l') => dfirst_any l' _ a' (by omega) hne (A := A) (c := c) w D h
      have hd := fun w D => ddig_any a' w D
      have hs1 := tx_size (fsT l' a').1
      have hs2 := tx_size (adT a')
      have hdl : (l'.drop (fsT l' a').2).length = l'.length - (fsT l' a').2 := List.length_drop
      clear HS hv
      generalize (fsT l' a').1 = F at *
      generalize (fsT l' a').2 = n at *
      generalize adT a' = D6 at *
      have HQ : Hid (out ++ (D6 ++ 32 :: F) :: lnT (l'.drop n).length (l'.drop n) (wrap64 (a' + n * 2)) = lnT l.length l a) := H
      clear H
      obtain ⟨hn1, hn2, hn3⟩ := hr
      have hgt : (0 : Int) < (l'.length : Int) := by omega
      go_wp2_with (first
        | (go_at_call 11; with_reducible refine (hf _ (W.step hbr) (hv'.below hbr)).mono ?_; rintro e w1 ⟨rfl, hb⟩; have hown := own_step hown hb; have hbr := hbr.trans (hb.mono hbr.size); clear hb)
        | (go_at_call 12; with_reducible refine (hd _ (W.step hbr).tb).mono ?_; rintro e w2 ⟨rfl, hb⟩; have hown := own_step hown hb; have hbr := hbr.trans (hb.mono hbr.size); clear hb)
        | (at_builtin; refine wpList_append_own _ rfl (.tmp 17) (.tmp 23) 24 rfl W0.heap.size 9 i0 (.string ⟨#[]⟩) 1 16 Tryz.underlying24 hi hz0 hz1 hz2 rfl (by decide) _ _ _ rfl (hown.alloc _) ⟨w2.heap.size, 0, none⟩ 1 1 [.string ⟨(D6 ++ 32 :: F).toArray⟩] rfl rfl (by have h := cell_one_new w2 (.string ⟨(D6 ++ 32 :: F).toArray⟩) 9; simpa [ba_app] using h) (fun x hx => by simp at hx; subst hx; rfl) (by unfold maxLen; omega) (by omega) (by have := hbr.size; simp; omega) ?_; intro v' w3 hown' hgrow _))
      rw [strV_snoc] at hown'
      refine ⟨⟨l'.drop n, wrap64 (a' + n * 2), out ++ [D6 ++ 32 :: F], hdrop, rfl, ?_, (hbr.alloc hbr.size _).grown hgrow (by have := hbr.size; simp; omega) (fun j hj => (hown.lt j hj).1), ?_, ?_⟩, ?_⟩
      · rw [List.length_append]; exact hown'
      · rw [List.length_append, hdl]; simp only [List.length_cons, List.length_nil]; omega
      · unfold Hid at HQ ⊢
        rw [← HQ]; simp
      · simp only; omega
    · have e : l' = [] := List.length_eq_zero_iff.1 (by omega)
      subst e
      obtain ⟨A3, c3, rfl, _, _⟩ := hv'
      have HQ : Hid (out = lnT l.length l a) := by
        have H : out ++ lnT ([] : List Int).length [] a' = lnT l.length l a := HS
        unfold Hid
        simpa [lnT] using H
      have hT := Txt.of_own hown
      clear HS hv hown
      go_wp2
      go_ret
      unfold Hid at HQ
      rw [← HQ]
      exact ⟨_, rfl, hT, hbr⟩

end Go.Proofs.YtdbbnkjnmldnpaaGreatDoor
