/-
  Walks over the small calls of package inst: take, place, the bits of a layout, the number in a field, the operand in a field. Condition: the tables read as the program's text lays them.
-/
import Derived.Test.YtdbbnkjnmldnpaaGreatDoorIA
namespace Go.Proofs.YtdbbnkjnmldnpaaGreatDoor
open Go.RowKit
set_option linter.unusedSimpArgs false
set_option linter.unusedVariables false
set_option maxHeartbeats 40000000
set_option maxRecDepth 100000
attribute [local irreducible] wpQuiet

theorem take_any (w f : Int) (hf : IsM f) (hw : 0 ≤ w ∧ w ≤ 65535) {A : Addr} {c : Nat} (W0 : World) (W : Frm A c W0) : Calls Tryz.prog 86 #[.int .i64 w, .int .i64 f] W0 fun e w' => e = .returned (.int .i64 (takeR w f)) ∧ Below W0.heap.size W0 w' := by
  have h := tz_any f hf W0 W
  have hd : w / 64 % 64 * 64 / 64 = w / 64 % 64 := by omega
  have hd2 : w / 64 % 8 * 64 / 64 = w / 64 % 8 := by omega
  rcases hf with rfl | rfl | rfl | rfl | rfl | rfl | rfl
  · have A1 : bits .and .i64 w 4032 = w / 64 % 64 * 64 := a4032 w
    have h : Calls Tryz.prog 97 #[.int .u64 4032] W0 fun e w' => e = .returned (.int .i64 6) ∧ Below W0.heap.size W0 w' := h
    have e : takeR w 4032 = w / 64 % 64 := by simp [takeR]
    rw [e]
    clear e
    go_enter Tryz.func86, Tryz.ntmps86
    go_wp2_with (first | (go_at_call 97; with_reducible refine h.mono ?_; rintro e w' ⟨rfl, hb⟩))
    go_ret
    exact ⟨rfl, hb⟩
  · have A1 : bits .and .i64 w 448 = w / 64 % 8 * 64 := a448 w
    have h : Calls Tryz.prog 97 #[.int .u64 448] W0 fun e w' => e = .returned (.int .i64 6) ∧ Below W0.heap.size W0 w' := h
    have e : takeR w 448 = w / 64 % 8 := by simp [takeR]
    rw [e]
    clear e
    go_enter Tryz.func86, Tryz.ntmps86
    go_wp2_with (first | (go_at_call 97; with_reducible refine h.mono ?_; rintro e w' ⟨rfl, hb⟩))
    go_ret
    exact ⟨rfl, hb⟩
  · have A1 : bits .and .i64 w 63 = w % 64 := a63 w
    have h : Calls Tryz.prog 97 #[.int .u64 63] W0 fun e w' => e = .returned (.int .i64 0) ∧ Below W0.heap.size W0 w' := h
    have e : takeR w 63 = w % 64 := by simp [takeR]
    rw [e]
    clear e
    go_enter Tryz.func86, Tryz.ntmps86
    go_wp2_with (first | (go_at_call 97; with_reducible refine h.mono ?_; rintro e w' ⟨rfl, hb⟩))
    go_ret
    exact ⟨rfl, hb⟩
  · have A1 : bits .and .i64 w 7 = w % 8 := a7 w
    have h : Calls Tryz.prog 97 #[.int .u64 7] W0 fun e w' => e = .returned (.int .i64 0) ∧ Below W0.heap.size W0 w' := h
    have e : takeR w 7 = w % 8 := by simp [takeR]
    rw [e]
    clear e
    go_enter Tryz.func86, Tryz.ntmps86
    go_wp2_with (first | (go_at_call 97; with_reducible refine h.mono ?_; rintro e w' ⟨rfl, hb⟩))
    go_ret
    exact ⟨rfl, hb⟩
  · have A1 : bits .and .i64 w 255 = w % 256 := a255 w
    have h : Calls Tryz.prog 97 #[.int .u64 255] W0 fun e w' => e = .returned (.int .i64 0) ∧ Below W0.heap.size W0 w' := h
    have e : takeR w 255 = w % 256 := by simp [takeR]
    rw [e]
    clear e
    go_enter Tryz.func86, Tryz.ntmps86
    go_wp2_with (first | (go_at_call 97; with_reducible refine h.mono ?_; rintro e w' ⟨rfl, hb⟩))
    go_ret
    exact ⟨rfl, hb⟩
  · have A1 : bits .and .i64 w 15 = w % 16 := a15 w
    have h : Calls Tryz.prog 97 #[.int .u64 15] W0 fun e w' => e = .returned (.int .i64 0) ∧ Below W0.heap.size W0 w' := h
    have e : takeR w 15 = w % 16 := by simp [takeR]
    rw [e]
    clear e
    go_enter Tryz.func86, Tryz.ntmps86
    go_wp2_with (first | (go_at_call 97; with_reducible refine h.mono ?_; rintro e w' ⟨rfl, hb⟩))
    go_ret
    exact ⟨rfl, hb⟩
  · have A1 : bits .and .i64 w 0 = 0 := a0 w
    have h : Calls Tryz.prog 97 #[.int .u64 0] W0 fun e w' => e = .returned (.int .i64 64) ∧ Below W0.heap.size W0 w' := h
    have e : takeR w 0 = 0 := by simp [takeR]
    rw [e]
    clear e
    go_enter Tryz.func86, Tryz.ntmps86
    go_wp2_with (first | (go_at_call 97; with_reducible refine h.mono ?_; rintro e w' ⟨rfl, hb⟩))
    go_ret
    exact ⟨rfl, hb⟩

theorem bits_any (e0 e1 e2 e3 e4 e5 : Int) (w : World) : Calls Tryz.prog 89 #[.agg #[.int .i64 e0, .int .i64 e1, .int .i64 e2, .int .i64 e3, .int .i64 e4, .int .i64 e5]] w fun e w' => e = .returned (.int .i64 (bitsR e0 e1 e2 e3 e4)) ∧ Below w.heap.size w w' := by
  have A1 : bitsR e0 e1 e2 e3 e4 = bits .or .i64 (bits .or .i64 (bits .or .i64 (bits .or .i64 e0 e1) e2) e3) e4 := rfl
  rw [A1]
  clear A1
  go_enter Tryz.func89, Tryz.ntmps89
  go_wp2
  go_ret
  exact ⟨rfl, (Below.refl _ _).alloc (Nat.le_refl _) _⟩

theorem number_any (e0 e1 e2 e3 e4 e5 n : Int) (h4 : 0 ≤ e4 ∧ e4 ≤ 255) (h5 : -128 ≤ e5 ∧ e5 ≤ 0) (hn : 0 ≤ n ∧ n ≤ 255) (w : World) : Calls Tryz.prog 91 #[.agg #[.int .i64 e0, .int .i64 e1, .int .i64 e2, .int .i64 e3, .int .i64 e4, .int .i64 e5], .int .i64 n] w fun e w' => e = .returned (.int .i64 (numR e4 e5 n)) ∧ Below w.heap.size w w' := by
  obtain ⟨h41, h42⟩ := h4
  obtain ⟨h51, h52⟩ := h5
  obtain ⟨hn1, hn2⟩ := hn
  by_cases h : e5 + e4 < n
  · have e : numR e4 e5 n = n - e4 - 1 := if_pos h
    rw [e]
    clear e
    go_enter Tryz.func91, Tryz.ntmps91
    go_wp2
    go_ret
    exact ⟨rfl, (Below.refl _ _).alloc (Nat.le_refl _) _⟩
  · have e : numR e4 e5 n = n := if_neg h
    rw [e]
    clear e
    go_enter Tryz.func91, Tryz.ntmps91
    go_wp2
    go_ret
    exact ⟨rfl, (Below.refl _ _).alloc (Nat.le_refl _) _⟩

theorem hoO_any (m r x f : Int) (w : World) : Calls Tryz.prog 85 #[.agg #[.int .i64 m, .int .i64 r, .int .i64 x], .int .i64 f] w fun e w' => e = .returned (.bool (hoO m r x f)) ∧ Below w.heap.size w w' := by
  have hv := fun w => valid_any m r x w
  have hX := Bx.put m r x w
  by_cases h : f = 0
  · subst h
    have e : hoO m r x 0 = decide (m = 0 ∧ r = 0 ∧ x = 0) := if_pos rfl
    rw [e]
    clear e hX hv
    go_enter Tryz.func85, Tryz.ntmps85
    go_wp2
    all_goals
      go_ret
      exact ⟨ret_bool (by simp [*]), (Below.refl _ _).alloc (Nat.le_refl _) _⟩
  · have e : hoO m r x f = vdR m r x := if_neg h
    rw [e]
    clear e
    have hh : (f == 0) = false := by simpa using h
    generalize vdR m r x = V at *
    go_enter Tryz.func85, Tryz.ntmps85
    go_wp2_with fail
    have c0 := hX.c0
    have c1 := hX.c1
    have c2 := hX.c2
    generalize w.alloc (.cells #[.int .i64 m, .int .i64 r, .int .i64 x] 33) = w1 at *
    go_wp2_with (first | (go_at_call 18; with_reducible refine (hv _).mono ?_; rintro e w' ⟨rfl, hb⟩; have hX := hX.step hb; clear hb))
    go_ret
    exact ⟨rfl, hX.below⟩

theorem forbidden_any (o : Int) (b : Bool) (m r x p q y g n : Int) (w : World) : Calls Tryz.prog 73 #[.agg #[.int .i64 o, .bool b, .int .i64 m, .int .i64 r, .int .i64 x, .int .i64 p, .int .i64 q, .int .i64 y, .int .i64 g, .int .i64 n]] w fun e w' => e = .returned (.bool (fbR ⟨o, b, m, r, x, p, q, y, g, n⟩)) ∧ Below w.heap.size w w' := by
  by_cases h9 : o = 9
  · subst h9
    have e : fbR ⟨9, b, m, r, x, p, q, y, g, n⟩ = !decide (g.tmod 2 = 0) := rfl
    rw [e]
    clear e
    go_enter Tryz.func73, Tryz.ntmps73
    go_wp2
    go_ret
    exact ⟨by first | rfl | simp, (Below.refl _ _).alloc (Nat.le_refl _) _⟩
  · by_cases h4 : o = 41 ∨ o = 42
    · have e : fbR ⟨o, b, m, r, x, p, q, y, g, n⟩ = decide (p = 0) := (if_neg h9).trans (if_pos h4)
      rw [e]
      clear e h9
      rcases h4 with rfl | rfl
      all_goals
        go_enter Tryz.func73, Tryz.ntmps73
        go_wp2
        go_ret
        exact ⟨by first | rfl | simp, (Below.refl _ _).alloc (Nat.le_refl _) _⟩
    · have e : fbR ⟨o, b, m, r, x, p, q, y, g, n⟩ = false := (if_neg h9).trans (if_neg h4)
      rw [e]
      clear e
      have h1 : (o == 9) = false := by simpa using h9
      have h2 : (o == 41) = false := by simp; omega
      have h3 : (o == 42) = false := by simp; omega
      go_enter Tryz.func73, Tryz.ntmps73
      go_wp2
      go_ret
      exact ⟨rfl, (Below.refl _ _).alloc (Nat.le_refl _) _⟩

end Go.Proofs.YtdbbnkjnmldnpaaGreatDoor
