/-
  Walks over Write of package memory and of its reference. Condition: lists have at most 2^40 elements, the words are words; for Write of memory, the bad addresses ascend.
-/
import Derived.Test.YtjjmgmnhcccjgaaMeJ
namespace Go.Proofs.Ytjjmgmnhcccjgaa
open Go.RowKit
set_option linter.unusedSimpArgs false
set_option linter.unusedVariables false
set_option maxHeartbeats 1000000
attribute [local irreducible] wpQuiet

theorem Own.mono {B B' : Nat} {w : World} {v : Value} {l : List Int} (h : Own B w v l) (hb : B' ≤ B) : Own B' w v l := World.ownsRow.mono h hb
theorem Own.opens {B j : Nat} {w w0 : World} {v : Value} {l : List Int} {x : Int} (h : Own B w v l) (hx : Hid (l[j]? = some x)) (hb : Below B w0 w) (y : Int) :
    ∃ g cap, v = .slice (some ⟨g, 0, none⟩) l.length cap ∧ w.cell? ⟨g, j, none⟩ = some (.int .i64 x) ∧ w.frozen? ⟨g, j, none⟩ = false ∧ Below B w0 (w.setCell ⟨g, j, none⟩ (.int .i64 y)) ∧ Own B (w.setCell ⟨g, j, none⟩ (.int .i64 y)) (.slice (some ⟨g, 0, none⟩) l.length cap) (l.set j y) := by
  obtain ⟨g, cap, rfl, hg, _, _⟩ := h.form (by have := (List.getElem?_eq_some_iff.1 hx).1; omega)
  exact ⟨g, cap, rfl, h.cell hx, h.frozen j, hb.setCell hg _, h.set j y⟩
theorem setN_mod (l : List Int) (a : Nat) (v : Int) : setN l a (v % 256) = setN l a v := by
  unfold setN setW; rw [show v % 256 % 256 = v % 256 by omega]
theorem writeM_no {mem : List Int} {a v : Int} {b : Bool} (h : accP (2 * (mem.length : Int)) a b = false) : writeM mem a b v = [] := if_neg (by rw [h]; decide)
theorem writeM_ok {mem : List Int} {a v : Int} {b : Bool} (h : accP (2 * (mem.length : Int)) a b = true) : writeM mem a b v = wordW mem a b v := if_pos h
theorem writeB_no {n a : Int} {bad : List Int} {b : Bool} (h : accP n a b = false) : writeB n bad a b = [] := if_neg (by rw [h]; decide)
theorem writeB_ok {n a : Int} {bad : List Int} {b : Bool} (h : accP n a b = true) : writeB n bad a b = withoutP bad (evenP a) := if_pos h

set_option maxHeartbeats 4000000 in
theorem write_any (vm vb : Value) (mem bad : List Int) (hl : mem.length ≤ 1099511627776) (hl2 : bad.length ≤ 1099511627776) (hW : wordsB mem = true) (hs : bad.Pairwise (· < ·)) (a : Int) (b : Bool) (v : Int) (w : World) (hm : Nums .i64 w vm mem) (hb : Nums .i64 w vb bad) :
    Calls Try.prog 18 #[vm, vb, .int .i64 a, .bool b, .int .i64 v] w fun e w' => ∃ r s, e = .returned (.tuple #[r, s, .int .i64 (writeT (2 * (mem.length : Int)) a b)]) ∧ Own w.heap.size w' r (writeM mem a b v) ∧ Own w.heap.size w' s (writeB (2 * (mem.length : Int)) bad a b) ∧ Below w.heap.size w w' := by
  have hcp := copied_any vm mem hl w hm
  have hwo := fun w' (hB : Below w.heap.size w w') => without_any vb bad hl2 hs (evenP a) w' (hb.below hB)
  obtain ⟨A, c, rfl, _, hc⟩ := hm
  have hac := fun w => accessible_any A mem.length c hl a b w
  clear hb hc
  cases hq : accP (2 * (mem.length : Int)) a b
  · rw [writeT_no hq, writeM_no hq, writeB_no hq]
    rw [hq] at hac
    clear hq hcp hwo
    go_enter Try.func18, Try.ntmps18
    go_wp2_with (first | (go_at_call 32; with_reducible refine (hac _).mono ?_; rintro e w' ⟨rfl, rfl⟩))
    go_ret3
    exact ⟨_, _, rfl, Own.nil _ _, Own.nil _ _, Below.refl _ _⟩
  · obtain ⟨h0, h1, h2⟩ := acc_rng hq
    rw [writeT_acc hq, writeM_ok hq, writeB_ok hq]
    rw [hq] at hac
    have hwa := fun w => waddr_any a h0 (by omega) w
    clear hq
    obtain ⟨k, rfl⟩ := Int.eq_ofNat_of_zero_le h0
    unfold wordW
    rw [Int.toNat_natCast]
    have hsb := fun r w1 (ho : Own w.heap.size w1 r mem) => setbyte_any w.heap.size r mem hl hW k (by omega) v w1 ho
    generalize withoutP bad (evenP (k : Int)) = L at *
    generalize evenP (k : Int) = p at *
    cases b
    · simp only [Bool.false_eq_true, if_false]
      have hk : k / 2 < mem.length := by omega
      have hx := List.getElem?_eq_getElem hk
      generalize mem[k / 2] = x at *
      have hi : (k : Int) / 2 = ((k / 2 : Nat) : Int) := by omega
      have A0 := a65535 v
      clear hsb h2
      generalize v % 65536 = y at *
      generalize hj : k / 2 = j at *
      replace hj := hid hj
      replace hx := hid hx
      have hpos : 0 < mem.length := by omega
      go_enter Try.func18, Try.ntmps18
      go_wp2_with (first
        | (go_at_call 32; with_reducible refine (hac _).mono ?_; rintro e w' ⟨rfl, rfl⟩)
        | (go_at_call 39; with_reducible refine hcp.mono ?_; rintro e w1 ⟨r, rfl, ho, hB⟩; obtain ⟨g, cap, rfl, hcx, hfz, hB2, ho2⟩ := Own.opens ho hx hB y)
        | (go_at_call 34; with_reducible refine (hwa _).mono ?_; rintro e w' ⟨rfl, rfl⟩)
        | (go_at_call 41; with_reducible refine (hwo _ hB2).mono ?_; rintro e w3 ⟨s, rfl, hs3, hb3⟩))
      go_ret3
      exact ⟨_, _, rfl, ho2.step hb3, hs3.mono hB2.size, hB2.trans (hb3.mono hB2.size)⟩
    · simp only [if_true]
      clear h2
      generalize setN mem k v = M at *
      go_enter Try.func18, Try.ntmps18
      go_wp2_with (first
        | (go_at_call 32; with_reducible refine (hac _).mono ?_; rintro e w' ⟨rfl, rfl⟩)
        | (go_at_call 39; with_reducible refine hcp.mono ?_; rintro e w1 ⟨r, rfl, ho, hB⟩)
        | (go_at_call 40; with_reducible refine (hsb _ _ ho).mono ?_; rintro e w2 ⟨rfl, ho2, hb2⟩; have hB2 := Below.trans hB hb2)
        | (go_at_call 34; with_reducible refine (hwa _).mono ?_; rintro e w' ⟨rfl, rfl⟩)
        | (go_at_call 41; with_reducible refine (hwo _ hB2).mono ?_; rintro e w3 ⟨s, rfl, hs3, hb3⟩))
      go_ret3
      exact ⟨_, _, rfl, ho2.step hb3, hs3.mono hB2.size, hB2.trans (hb3.mono hB2.size)⟩

theorem own_all {B : Nat} {w : World} {v : Value} {l : List Int} (h : w.ownsRow B 3 1 v (0 + l.length) ([] ++ l.map (Value.int .i64))) : Own B w v l := by
  unfold Own
  rw [Nat.zero_add, List.nil_append] at h
  exact h
theorem lit_own (w : World) : (w.alloc (.cells #[] 3)).ownsRow w.heap.size 3 1 (.slice (some ⟨w.heap.size, 0, none⟩) 0 0) 0 [] := World.ownsRow_lit w #[] 0 (Nat.le_refl _) (by decide) rfl
theorem all_cells {w : World} {p : Addr} {l : List Int} (hc : ∀ j x, l[j]? = some x → ∃ a : Addr, some p = some a ∧ w.cell? (a.add j) = some (.int .i64 x) ∧ (a.add j).block < w.heap.size) {w' : World} (hb : Below w.heap.size w w') : ∀ j u, (l.map (Value.int .i64))[j]? = some u → w'.cell? (p.add j) = some u := by
  have h := part_cells hc hb 0 (m := l) (X := l.map (Value.int .i64)) (fun j x hx => by rw [Nat.zero_add]; exact hx) rfl
  intro j u hu
  have := h j u hu
  rwa [Nat.zero_add] at this

set_option maxHeartbeats 4000000 in
theorem rwrite_any (vm vb : Value) (mem bad : List Int) (hl : mem.length ≤ 1099511627776) (hl2 : bad.length ≤ 1099511627776) (hW : wordsB mem = true) (a : Int) (b : Bool) (v : Int) (w : World) (hm : Nums .i64 w vm mem) (hb : Nums .i64 w vb bad) :
    Calls Try.prog 19 #[vm, vb, .int .i64 a, .bool b, .int .i64 v] w fun e w' => ∃ r s, e = .returned (.tuple #[r, s, .int .i64 (writeT (2 * (mem.length : Int)) a b)]) ∧ Own w.heap.size w' r (writeM mem a b v) ∧ Own w.heap.size w' s (writeB (2 * (mem.length : Int)) bad a b) ∧ Below w.heap.size w w' := by
  have hwo := fun w' (hB : Below w.heap.size w w') => rwithout_any vb bad hl2 (evenP a) w' (hb.below hB)
  obtain ⟨A, c, rfl, _, hc⟩ := hm
  have hac := fun w => racc_any A mem.length c hl a b w
  clear hb
  cases hq : accP (2 * (mem.length : Int)) a b
  · rw [writeM_no hq, writeB_no hq]
    rw [writeT_no hq] at hac ⊢
    clear hq hwo hc
    go_enter Try.func19, Try.ntmps19
    go_wp2_with (first | (go_at_call 36; with_reducible refine (hac _).mono ?_; rintro e w' ⟨rfl, rfl⟩))
    go_ret3
    exact ⟨_, _, rfl, Own.nil _ _, Own.nil _ _, Below.refl _ _⟩
  · obtain ⟨h0, h1, h2⟩ := acc_rng hq
    rw [writeM_ok hq, writeB_ok hq]
    rw [writeT_acc hq] at hac ⊢
    have hev : a - a % 2 = evenP a := rfl
    clear hq
    obtain ⟨k, rfl⟩ := Int.eq_ofNat_of_zero_le h0
    unfold wordW
    rw [Int.toNat_natCast]
    have hsb := fun r w1 (ho : Own w.heap.size w1 r mem) => rset_any w.heap.size r mem hl hW k (by omega) (v % 256) (by omega) w1 ho
    rw [setN_mod] at hsb
    generalize withoutP bad (evenP (k : Int)) = L at *
    generalize evenP (k : Int) = p at *
    have hpos : 0 < mem.length := by omega
    obtain ⟨q, rfl, _⟩ := hc 0 _ (List.getElem?_eq_getElem hpos)
    obtain ⟨i0, hti, hz0, hz1, hz2⟩ := info_parts info64
    have hB := (Below.refl w.heap.size w).alloc (Nat.le_refl _) (.cells #[] 3)
    have hnews := all_cells hc hB
    have hone := one_ints mem
    have hgb := fun (w' : World) (hg : (w.alloc (.cells #[] 3)).grownBy w' (Value.ownBlock (.slice (some ⟨w.heap.size, 0, none⟩) 0 0))) => hB.grown hg (Nat.le_of_lt (by simp)) (fun j hj => (World.ownsRow.lt (lit_own w) j hj).1)
    replace hc := hid hc
    cases b
    · simp only [Bool.false_eq_true, if_false]
      have hk : k / 2 < mem.length := by omega
      have hx := List.getElem?_eq_getElem hk
      generalize mem[k / 2] = x at *
      have hi : (k : Int) / 2 = ((k / 2 : Nat) : Int) := by omega
      have A0 := a65535 v
      clear hsb h2
      generalize v % 65536 = y at *
      generalize hj : k / 2 = j at *
      replace hj := hid hj
      replace hx := hid hx
      go_enter Try.func19, Try.ntmps19
      go_wp2_with (first
        | (go_at_call 36; with_reducible refine (hac _).mono ?_; rintro e w' ⟨rfl, rfl⟩)
        | (at_builtin; refine wpList_append_own _ rfl (.tmp 22) (.tmp 23) 22 rfl w.heap.size 3 i0 (.int .i64 0) 1 8 Try.underlying22 hti hz0 hz1 hz2 rfl (by decide) _ 0 _ rfl (lit_own w) q mem.length c (mem.map (Value.int .i64)) rfl (by simp) hnews hone (by unfold maxLen; omega) (by omega) (Nat.le_of_lt (by simp)) ?_; intro v' w1 hown' hgrow _; have ho := own_all hown'; have hB1 := hgb _ hgrow; obtain ⟨g, cap, rfl, hcx, hfz, hB2, ho2⟩ := Own.opens ho hx hB1 y; clear hown' hgrow)
        | (go_at_call 43; with_reducible refine (hwo _ hB2).mono ?_; rintro e w3 ⟨s, rfl, hs3, hb3⟩))
      go_ret3
      exact ⟨_, _, rfl, ho2.step hb3, hs3.mono hB2.size, hB2.trans (hb3.mono hB2.size)⟩
    · simp only [if_true]
      have A0 := a255 v
      have v0 : 0 ≤ v % 256 := by omega
      clear h2
      generalize setN mem k v = M at *
      generalize v % 256 = y at *
      go_enter Try.func19, Try.ntmps19
      go_wp2_with (first
        | (go_at_call 36; with_reducible refine (hac _).mono ?_; rintro e w' ⟨rfl, rfl⟩)
        | (at_builtin; refine wpList_append_own _ rfl (.tmp 22) (.tmp 23) 22 rfl w.heap.size 3 i0 (.int .i64 0) 1 8 Try.underlying22 hti hz0 hz1 hz2 rfl (by decide) _ 0 _ rfl (lit_own w) q mem.length c (mem.map (Value.int .i64)) rfl (by simp) hnews hone (by unfold maxLen; omega) (by omega) (Nat.le_of_lt (by simp)) ?_; intro v' w1 hown' hgrow _; have ho := own_all hown'; have hB1 := hgb _ hgrow; clear hown' hgrow)
        | (go_at_call 42; with_reducible refine (hsb _ _ ho).mono ?_; rintro e w2 ⟨rfl, ho2, hb2⟩; have hB2 := Below.trans hB1 hb2)
        | (go_at_call 43; with_reducible refine (hwo _ hB2).mono ?_; rintro e w3 ⟨s, rfl, hs3, hb3⟩))
      go_ret3
      exact ⟨_, _, rfl, ho2.step hb3, hs3.mono hB2.size, hB2.trans (hb3.mono hB2.size)⟩
end Go.Proofs.Ytjjmgmnhcccjgaa
