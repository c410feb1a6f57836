import Derived.Test.YtdbbnkjnmldnpaaGreatDoorInG
import Derived.Test.YtdbbnkjnmldnpaaGreatDoorInH
/-
  Walks over extend: the extension words of an instruction in the caller's variable. Condition: the tables read as the program's text lays them; the words lie below the call.
-/
namespace Go.Proofs.YtdbbnkjnmldnpaaGreatDoor
open Go.RowKit
set_option linter.unusedSimpArgs false
set_option linter.unusedVariables false
set_option maxHeartbeats 40000000
set_option maxRecDepth 100000
attribute [local irreducible] wpQuiet

theorem extend_ff (o : Int) (b : Bool) (m r x p q y g n : Int) (hS : exR (m % 8) (r % 8) = false) (hD : exR (p % 8) (q % 8) = false) {A : Addr} {c : Nat} {bs : List (Nat × List Value)} (i : Nat) (B : Nat) (W0 : World) (hb : bs[i]? = some (B, [.int .i64 o, .bool b, .int .i64 m, .int .i64 r, .int .i64 x, .int .i64 p, .int .i64 q, .int .i64 y, .int .i64 g, .int .i64 n])) (hlow : W0.heap.size ≤ B) (hne : ∀ e ∈ bs.eraseIdx i, e.1 ≠ B)
    (V : Value) (a : Addr) (L cp : Nat)  (w : World) (hX : St A c bs W0 w) :
    Calls Tryz.prog 53 #[.pointer (some ⟨B, 0, none⟩), V] w fun e w' => e = .returned (.tuple #[]) ∧ St A c (bs.set i (B, [.int .i64 o, .bool b, .int .i64 m, .int .i64 r, .int .i64 x, .int .i64 p, .int .i64 q, .int .i64 y, .int .i64 g, .int .i64 n])) W0 w' := by
  have h1 := fun w => ext_any m r x w
  have h2 := fun w => ext_any p q y w
  rw [hS] at h1
  rw [hD] at h2
  have hset : bs.set i (B, [.int .i64 o, .bool b, .int .i64 m, .int .i64 r, .int .i64 x, .int .i64 p, .int .i64 q, .int .i64 y, .int .i64 g, .int .i64 n]) = bs := by
    obtain ⟨hi, hget⟩ := List.getElem?_eq_some_iff.1 hb
    have e : bs.set i bs[i] = bs := List.set_getElem_self hi
    rw [hget] at e
    exact e
  have i0 := hX.c i 0 hb rfl; have i1 := hX.c i 1 hb rfl; have i2 := hX.c i 2 hb rfl; have i3 := hX.c i 3 hb rfl; have i4 := hX.c i 4 hb rfl; have i5 := hX.c i 5 hb rfl; have i6 := hX.c i 6 hb rfl; have i7 := hX.c i 7 hb rfl; have i8 := hX.c i 8 hb rfl; have i9 := hX.c i 9 hb rfl
  have z4 := hX.fz i 4 hb; have z7 := hX.fz i 7 hb
  skip
  go_enter Tryz.func53, Tryz.ntmps53
  go_wp2_with (first | (go_at_call 41; with_reducible refine (h1 _).mono ?_; rintro _ w' ⟨rfl, hb0⟩; have hX := hX.step hb0; clear hb0; have i0 := hX.c i 0 hb rfl; have i1 := hX.c i 1 hb rfl; have i2 := hX.c i 2 hb rfl; have i3 := hX.c i 3 hb rfl; have i4 := hX.c i 4 hb rfl; have i5 := hX.c i 5 hb rfl; have i6 := hX.c i 6 hb rfl; have i7 := hX.c i 7 hb rfl; have i8 := hX.c i 8 hb rfl; have i9 := hX.c i 9 hb rfl; skip; have z4 := hX.fz i 4 hb; have z7 := hX.fz i 7 hb) | (go_at_call 41; with_reducible refine (h2 _).mono ?_; rintro _ w' ⟨rfl, hb0⟩; have hX := hX.step hb0; clear hb0; have i0 := hX.c i 0 hb rfl; have i1 := hX.c i 1 hb rfl; have i2 := hX.c i 2 hb rfl; have i3 := hX.c i 3 hb rfl; have i4 := hX.c i 4 hb rfl; have i5 := hX.c i 5 hb rfl; have i6 := hX.c i 6 hb rfl; have i7 := hX.c i 7 hb rfl; have i8 := hX.c i 8 hb rfl; have i9 := hX.c i 9 hb rfl; skip; have z4 := hX.fz i 4 hb; have z7 := hX.fz i 7 hb))
  refine bodyPost_end (v := .tuple #[]) (by simp [results, Tryz.results53, go_sem]) rfl ⟨rfl, by rw [hset]; exact hX⟩

theorem extend_ft (o : Int) (b : Bool) (m r x p q y g n : Int) (hS : exR (m % 8) (r % 8) = false) (hD : exR (p % 8) (q % 8) = true) {A : Addr} {c : Nat} {bs : List (Nat × List Value)} (i : Nat) (B : Nat) (W0 : World) (hb : bs[i]? = some (B, [.int .i64 o, .bool b, .int .i64 m, .int .i64 r, .int .i64 x, .int .i64 p, .int .i64 q, .int .i64 y, .int .i64 g, .int .i64 n])) (hlow : W0.heap.size ≤ B) (hne : ∀ e ∈ bs.eraseIdx i, e.1 ≠ B)
    (V : Value) (a : Addr) (L cp : Nat) (y0 : Int) (hV : V = .slice (some a) L cp) (hL : 1 ≤ L) (hLb : L ≤ 1099511627776) (hcp : L ≤ cp) (hc0 : ∀ w', Below W0.heap.size W0 w' → w'.cell? a = some (.int .i64 y0)) (w : World) (hX : St A c bs W0 w) :
    Calls Tryz.prog 53 #[.pointer (some ⟨B, 0, none⟩), V] w fun e w' => e = .returned (.tuple #[]) ∧ St A c (bs.set i (B, [.int .i64 o, .bool b, .int .i64 m, .int .i64 r, .int .i64 x, .int .i64 p, .int .i64 q, .int .i64 y0, .int .i64 g, .int .i64 n])) W0 w' := by
  have h1 := fun w => ext_any m r x w
  have h2 := fun w => ext_any p q y w
  rw [hS] at h1
  rw [hD] at h2
  have hset : bs.set i (B, [.int .i64 o, .bool b, .int .i64 m, .int .i64 r, .int .i64 x, .int .i64 p, .int .i64 q, .int .i64 y, .int .i64 g, .int .i64 n]) = bs := by
    obtain ⟨hi, hget⟩ := List.getElem?_eq_some_iff.1 hb
    have e : bs.set i bs[i] = bs := List.set_getElem_self hi
    rw [hget] at e
    exact e
  subst hV
  have g0 : (0 : Int) < (L : Int) := by omega
  have g1 : (1 : Int) ≤ (L : Int) := by omega
  have g2 : (L : Int) ≤ (cp : Int) := by omega
  have n0 : 0 < L := by omega
  have n1 : L ≠ 0 := by omega
  have i0 := hX.c i 0 hb rfl; have i1 := hX.c i 1 hb rfl; have i2 := hX.c i 2 hb rfl; have i3 := hX.c i 3 hb rfl; have i4 := hX.c i 4 hb rfl; have i5 := hX.c i 5 hb rfl; have i6 := hX.c i 6 hb rfl; have i7 := hX.c i 7 hb rfl; have i8 := hX.c i 8 hb rfl; have i9 := hX.c i 9 hb rfl
  have z4 := hX.fz i 4 hb; have z7 := hX.fz i 7 hb
  have s0 := hc0 _ hX.below
  go_enter Tryz.func53, Tryz.ntmps53
  go_wp2_with (first | (go_at_call 41; with_reducible refine (h1 _).mono ?_; rintro _ w' ⟨rfl, hb0⟩; have hX := hX.step hb0; clear hb0; have i0 := hX.c i 0 hb rfl; have i1 := hX.c i 1 hb rfl; have i2 := hX.c i 2 hb rfl; have i3 := hX.c i 3 hb rfl; have i4 := hX.c i 4 hb rfl; have i5 := hX.c i 5 hb rfl; have i6 := hX.c i 6 hb rfl; have i7 := hX.c i 7 hb rfl; have i8 := hX.c i 8 hb rfl; have i9 := hX.c i 9 hb rfl; have s0 := hc0 _ hX.below; have z4 := hX.fz i 4 hb; have z7 := hX.fz i 7 hb) | (go_at_call 41; with_reducible refine (h2 _).mono ?_; rintro _ w' ⟨rfl, hb0⟩; have hX := hX.step hb0; clear hb0; have i0 := hX.c i 0 hb rfl; have i1 := hX.c i 1 hb rfl; have i2 := hX.c i 2 hb rfl; have i3 := hX.c i 3 hb rfl; have i4 := hX.c i 4 hb rfl; have i5 := hX.c i 5 hb rfl; have i6 := hX.c i 6 hb rfl; have i7 := hX.c i 7 hb rfl; have i8 := hX.c i 8 hb rfl; have i9 := hX.c i 9 hb rfl; have s0 := hc0 _ hX.below; have z4 := hX.fz i 4 hb; have z7 := hX.fz i 7 hb))
  refine bodyPost_end (v := .tuple #[]) (by simp [results, Tryz.results53, go_sem]) rfl ⟨rfl, hX.store i 7 (.int .i64 y0) hb (by simp) hlow (fun j e hj he => hne e (List.mem_eraseIdx_iff_getElem?.2 ⟨j, hj, he⟩))⟩

theorem extend_tf (o : Int) (b : Bool) (m r x p q y g n : Int) (hS : exR (m % 8) (r % 8) = true) (hD : exR (p % 8) (q % 8) = false) {A : Addr} {c : Nat} {bs : List (Nat × List Value)} (i : Nat) (B : Nat) (W0 : World) (hb : bs[i]? = some (B, [.int .i64 o, .bool b, .int .i64 m, .int .i64 r, .int .i64 x, .int .i64 p, .int .i64 q, .int .i64 y, .int .i64 g, .int .i64 n])) (hlow : W0.heap.size ≤ B) (hne : ∀ e ∈ bs.eraseIdx i, e.1 ≠ B)
    (V : Value) (a : Addr) (L cp : Nat) (x0 : Int) (hV : V = .slice (some a) L cp) (hL : 1 ≤ L) (hLb : L ≤ 1099511627776) (hcp : L ≤ cp) (hc0 : ∀ w', Below W0.heap.size W0 w' → w'.cell? a = some (.int .i64 x0)) (w : World) (hX : St A c bs W0 w) :
    Calls Tryz.prog 53 #[.pointer (some ⟨B, 0, none⟩), V] w fun e w' => e = .returned (.tuple #[]) ∧ St A c (bs.set i (B, [.int .i64 o, .bool b, .int .i64 m, .int .i64 r, .int .i64 x0, .int .i64 p, .int .i64 q, .int .i64 y, .int .i64 g, .int .i64 n])) W0 w' := by
  have h1 := fun w => ext_any m r x w
  have h2 := fun w => ext_any p q y w
  rw [hS] at h1
  rw [hD] at h2
  have hset : bs.set i (B, [.int .i64 o, .bool b, .int .i64 m, .int .i64 r, .int .i64 x, .int .i64 p, .int .i64 q, .int .i64 y, .int .i64 g, .int .i64 n]) = bs := by
    obtain ⟨hi, hget⟩ := List.getElem?_eq_some_iff.1 hb
    have e : bs.set i bs[i] = bs := List.set_getElem_self hi
    rw [hget] at e
    exact e
  subst hV
  have g0 : (0 : Int) < (L : Int) := by omega
  have g1 : (1 : Int) ≤ (L : Int) := by omega
  have g2 : (L : Int) ≤ (cp : Int) := by omega
  have n0 : 0 < L := by omega
  have n1 : L ≠ 0 := by omega
  have i0 := hX.c i 0 hb rfl; have i1 := hX.c i 1 hb rfl; have i2 := hX.c i 2 hb rfl; have i3 := hX.c i 3 hb rfl; have i4 := hX.c i 4 hb rfl; have i5 := hX.c i 5 hb rfl; have i6 := hX.c i 6 hb rfl; have i7 := hX.c i 7 hb rfl; have i8 := hX.c i 8 hb rfl; have i9 := hX.c i 9 hb rfl
  have z4 := hX.fz i 4 hb; have z7 := hX.fz i 7 hb
  have s0 := hc0 _ hX.below
  go_enter Tryz.func53, Tryz.ntmps53
  go_wp2_with (first | (go_at_call 41; with_reducible refine (h1 _).mono ?_; rintro _ w' ⟨rfl, hb0⟩; have hX := hX.step hb0; clear hb0; have i0 := hX.c i 0 hb rfl; have i1 := hX.c i 1 hb rfl; have i2 := hX.c i 2 hb rfl; have i3 := hX.c i 3 hb rfl; have i4 := hX.c i 4 hb rfl; have i5 := hX.c i 5 hb rfl; have i6 := hX.c i 6 hb rfl; have i7 := hX.c i 7 hb rfl; have i8 := hX.c i 8 hb rfl; have i9 := hX.c i 9 hb rfl; have s0 := hc0 _ hX.below; have z4 := hX.fz i 4 hb; have z7 := hX.fz i 7 hb) | (go_at_call 41; with_reducible refine (h2 _).mono ?_; rintro _ w' ⟨rfl, hb0⟩; have hX := hX.step hb0; clear hb0; have i0 := hX.c i 0 hb rfl; have i1 := hX.c i 1 hb rfl; have i2 := hX.c i 2 hb rfl; have i3 := hX.c i 3 hb rfl; have i4 := hX.c i 4 hb rfl; have i5 := hX.c i 5 hb rfl; have i6 := hX.c i 6 hb rfl; have i7 := hX.c i 7 hb rfl; have i8 := hX.c i 8 hb rfl; have i9 := hX.c i 9 hb rfl; have s0 := hc0 _ hX.below; have z4 := hX.fz i 4 hb; have z7 := hX.fz i 7 hb))
  have hX5 : St A c (bs.set i (B, [.int .i64 o, .bool b, .int .i64 m, .int .i64 r, .int .i64 x0, .int .i64 p, .int .i64 q, .int .i64 y, .int .i64 g, .int .i64 n])) W0 ((w'.setCell ⟨B, 4, none⟩ (.int .i64 x0)).drew) := (hX.store i 4 (.int .i64 x0) hb (by simp) hlow (fun j e hj he => hne e (List.mem_eraseIdx_iff_getElem?.2 ⟨j, hj, he⟩))).drew
  have hS0 : w'.drew.cell? a = some (.int .i64 x0) := hc0 _ hX.drew.below
  have hS5 : ((w'.setCell ⟨B, 4, none⟩ (.int .i64 x0)).drew).cell? a = some (.int .i64 x0) := hc0 _ hX5.below
  have hb2 : (bs.set i (B, [.int .i64 o, .bool b, .int .i64 m, .int .i64 r, .int .i64 x0, .int .i64 p, .int .i64 q, .int .i64 y, .int .i64 g, .int .i64 n]))[i]? = some (B, [.int .i64 o, .bool b, .int .i64 m, .int .i64 r, .int .i64 x0, .int .i64 p, .int .i64 q, .int .i64 y, .int .i64 g, .int .i64 n]) := List.getElem?_set_self (List.getElem?_eq_some_iff.1 hb).1
  go_region_held3 (fun w' => w'.cell? a = some (.int .i64 x0)) (first | with_reducible exact hS0 | with_reducible exact hS5) ((first | fail))
  all_goals
    have hX := hX5
    clear hX5 hS0 hS5
    generalize (w'.setCell ⟨B, 4, none⟩ (.int .i64 x0)).drew = w5 at *
    have i0 := hX.c i 0 hb2 rfl; have i1 := hX.c i 1 hb2 rfl; have i2 := hX.c i 2 hb2 rfl; have i3 := hX.c i 3 hb2 rfl; have i4 := hX.c i 4 hb2 rfl; have i5 := hX.c i 5 hb2 rfl; have i6 := hX.c i 6 hb2 rfl; have i7 := hX.c i 7 hb2 rfl; have i8 := hX.c i 8 hb2 rfl; have i9 := hX.c i 9 hb2 rfl
    have z4 := hX.fz i 4 hb2; have z7 := hX.fz i 7 hb2
    have s0 := hc0 _ hX.below
    go_wp2_with (first | (go_at_call 41; with_reducible refine (h2 _).mono ?_; rintro _ w' ⟨rfl, hb0⟩; have hX := hX.step hb0; clear hb0; have i0 := hX.c i 0 hb2 rfl; have i1 := hX.c i 1 hb2 rfl; have i2 := hX.c i 2 hb2 rfl; have i3 := hX.c i 3 hb2 rfl; have i4 := hX.c i 4 hb2 rfl; have i5 := hX.c i 5 hb2 rfl; have i6 := hX.c i 6 hb2 rfl; have i7 := hX.c i 7 hb2 rfl; have i8 := hX.c i 8 hb2 rfl; have i9 := hX.c i 9 hb2 rfl; have s0 := hc0 _ hX.below; have z4 := hX.fz i 4 hb2; have z7 := hX.fz i 7 hb2))
    all_goals refine bodyPost_end (v := .tuple #[]) (by simp [results, Tryz.results53, go_sem]) rfl ⟨rfl, hX⟩

theorem extend_tt (o : Int) (b : Bool) (m r x p q y g n : Int) (hS : exR (m % 8) (r % 8) = true) (hD : exR (p % 8) (q % 8) = true) {A : Addr} {c : Nat} {bs : List (Nat × List Value)} (i : Nat) (B : Nat) (W0 : World) (hb : bs[i]? = some (B, [.int .i64 o, .bool b, .int .i64 m, .int .i64 r, .int .i64 x, .int .i64 p, .int .i64 q, .int .i64 y, .int .i64 g, .int .i64 n])) (hlow : W0.heap.size ≤ B) (hne : ∀ e ∈ bs.eraseIdx i, e.1 ≠ B)
    (V : Value) (a : Addr) (L cp : Nat) (x0 y0 : Int) (hV : V = .slice (some a) L cp) (hL : 2 ≤ L) (hLb : L ≤ 1099511627776) (hcp : L ≤ cp) (hc0 : ∀ w', Below W0.heap.size W0 w' → w'.cell? a = some (.int .i64 x0)) (hc1 : ∀ w', Below W0.heap.size W0 w' → w'.cell? ⟨a.block, a.off + 1, none⟩ = some (.int .i64 y0)) (w : World) (hX : St A c bs W0 w) :
    Calls Tryz.prog 53 #[.pointer (some ⟨B, 0, none⟩), V] w fun e w' => e = .returned (.tuple #[]) ∧ St A c (bs.set i (B, [.int .i64 o, .bool b, .int .i64 m, .int .i64 r, .int .i64 x0, .int .i64 p, .int .i64 q, .int .i64 y0, .int .i64 g, .int .i64 n])) W0 w' := by
  have h1 := fun w => ext_any m r x w
  have h2 := fun w => ext_any p q y w
  rw [hS] at h1
  rw [hD] at h2
  have hset : bs.set i (B, [.int .i64 o, .bool b, .int .i64 m, .int .i64 r, .int .i64 x, .int .i64 p, .int .i64 q, .int .i64 y, .int .i64 g, .int .i64 n]) = bs := by
    obtain ⟨hi, hget⟩ := List.getElem?_eq_some_iff.1 hb
    have e : bs.set i bs[i] = bs := List.set_getElem_self hi
    rw [hget] at e
    exact e
  subst hV
  have g0 : (0 : Int) < (L : Int) := by omega
  have g1 : (1 : Int) ≤ (L : Int) := by omega
  have g2 : (L : Int) ≤ (cp : Int) := by omega
  have n0 : 0 < L := by omega
  have n1 : L ≠ 0 := by omega
  have g3 : (0 : Int) < ((L - 1 : Nat) : Int) := by omega
  have g4 : (2 : Int) ≤ (L : Int) := by omega
  have n2 : 0 < L - 1 := by omega
  have n3 : 1 < L := by omega
  have n4 : cp - 1 ≠ 0 := by omega
  have n5 : 1 < cp := by omega
  have i0 := hX.c i 0 hb rfl; have i1 := hX.c i 1 hb rfl; have i2 := hX.c i 2 hb rfl; have i3 := hX.c i 3 hb rfl; have i4 := hX.c i 4 hb rfl; have i5 := hX.c i 5 hb rfl; have i6 := hX.c i 6 hb rfl; have i7 := hX.c i 7 hb rfl; have i8 := hX.c i 8 hb rfl; have i9 := hX.c i 9 hb rfl
  have z4 := hX.fz i 4 hb; have z7 := hX.fz i 7 hb
  have s0 := hc0 _ hX.below; have s1 := hc1 _ hX.below
  go_enter Tryz.func53, Tryz.ntmps53
  go_wp2_with (first | (go_at_call 41; with_reducible refine (h1 _).mono ?_; rintro _ w' ⟨rfl, hb0⟩; have hX := hX.step hb0; clear hb0; have i0 := hX.c i 0 hb rfl; have i1 := hX.c i 1 hb rfl; have i2 := hX.c i 2 hb rfl; have i3 := hX.c i 3 hb rfl; have i4 := hX.c i 4 hb rfl; have i5 := hX.c i 5 hb rfl; have i6 := hX.c i 6 hb rfl; have i7 := hX.c i 7 hb rfl; have i8 := hX.c i 8 hb rfl; have i9 := hX.c i 9 hb rfl; have s0 := hc0 _ hX.below; have s1 := hc1 _ hX.below; have z4 := hX.fz i 4 hb; have z7 := hX.fz i 7 hb) | (go_at_call 41; with_reducible refine (h2 _).mono ?_; rintro _ w' ⟨rfl, hb0⟩; have hX := hX.step hb0; clear hb0; have i0 := hX.c i 0 hb rfl; have i1 := hX.c i 1 hb rfl; have i2 := hX.c i 2 hb rfl; have i3 := hX.c i 3 hb rfl; have i4 := hX.c i 4 hb rfl; have i5 := hX.c i 5 hb rfl; have i6 := hX.c i 6 hb rfl; have i7 := hX.c i 7 hb rfl; have i8 := hX.c i 8 hb rfl; have i9 := hX.c i 9 hb rfl; have s0 := hc0 _ hX.below; have s1 := hc1 _ hX.below; have z4 := hX.fz i 4 hb; have z7 := hX.fz i 7 hb))
  have hX5 : St A c (bs.set i (B, [.int .i64 o, .bool b, .int .i64 m, .int .i64 r, .int .i64 x0, .int .i64 p, .int .i64 q, .int .i64 y, .int .i64 g, .int .i64 n])) W0 ((w'.setCell ⟨B, 4, none⟩ (.int .i64 x0)).drew) := (hX.store i 4 (.int .i64 x0) hb (by simp) hlow (fun j e hj he => hne e (List.mem_eraseIdx_iff_getElem?.2 ⟨j, hj, he⟩))).drew
  have hS0 : w'.drew.cell? a = some (.int .i64 x0) ∧ w'.drew.cell? ⟨a.block, a.off + 1, none⟩ = some (.int .i64 y0) := ⟨hc0 _ hX.drew.below, hc1 _ hX.drew.below⟩
  have hS5 : ((w'.setCell ⟨B, 4, none⟩ (.int .i64 x0)).drew).cell? a = some (.int .i64 x0) ∧ ((w'.setCell ⟨B, 4, none⟩ (.int .i64 x0)).drew).cell? ⟨a.block, a.off + 1, none⟩ = some (.int .i64 y0) := ⟨hc0 _ hX5.below, hc1 _ hX5.below⟩
  have hb2 : (bs.set i (B, [.int .i64 o, .bool b, .int .i64 m, .int .i64 r, .int .i64 x0, .int .i64 p, .int .i64 q, .int .i64 y, .int .i64 g, .int .i64 n]))[i]? = some (B, [.int .i64 o, .bool b, .int .i64 m, .int .i64 r, .int .i64 x0, .int .i64 p, .int .i64 q, .int .i64 y, .int .i64 g, .int .i64 n]) := List.getElem?_set_self (List.getElem?_eq_some_iff.1 hb).1
  go_region_held3 (fun w' => w'.cell? a = some (.int .i64 x0) ∧ w'.cell? ⟨a.block, a.off + 1, none⟩ = some (.int .i64 y0)) (first | with_reducible exact hS0 | with_reducible exact hS5) ((first | fail))
  all_goals
    have hX := hX5
    clear hX5 hS0 hS5
    generalize (w'.setCell ⟨B, 4, none⟩ (.int .i64 x0)).drew = w5 at *
    have i0 := hX.c i 0 hb2 rfl; have i1 := hX.c i 1 hb2 rfl; have i2 := hX.c i 2 hb2 rfl; have i3 := hX.c i 3 hb2 rfl; have i4 := hX.c i 4 hb2 rfl; have i5 := hX.c i 5 hb2 rfl; have i6 := hX.c i 6 hb2 rfl; have i7 := hX.c i 7 hb2 rfl; have i8 := hX.c i 8 hb2 rfl; have i9 := hX.c i 9 hb2 rfl
    have z4 := hX.fz i 4 hb2; have z7 := hX.fz i 7 hb2
    have s0 := hc0 _ hX.below; have s1 := hc1 _ hX.below
    go_wp2_with (first | (go_at_call 41; with_reducible refine (h2 _).mono ?_; rintro _ w' ⟨rfl, hb0⟩; have hX := hX.step hb0; clear hb0; have i0 := hX.c i 0 hb2 rfl; have i1 := hX.c i 1 hb2 rfl; have i2 := hX.c i 2 hb2 rfl; have i3 := hX.c i 3 hb2 rfl; have i4 := hX.c i 4 hb2 rfl; have i5 := hX.c i 5 hb2 rfl; have i6 := hX.c i 6 hb2 rfl; have i7 := hX.c i 7 hb2 rfl; have i8 := hX.c i 8 hb2 rfl; have i9 := hX.c i 9 hb2 rfl; have s0 := hc0 _ hX.below; have s1 := hc1 _ hX.below; have z4 := hX.fz i 4 hb2; have z7 := hX.fz i 7 hb2))
    have hX := hX.store i 7 (.int .i64 y0) hb2 (by simp) hlow (fun j e hj he => hne e (by rw [← List.eraseIdx_set_eq (l := bs) (i := i) (a := (B, [.int .i64 o, .bool b, .int .i64 m, .int .i64 r, .int .i64 x0, .int .i64 p, .int .i64 q, .int .i64 y, .int .i64 g, .int .i64 n]))]; exact List.mem_eraseIdx_iff_getElem?.2 ⟨j, hj, he⟩))
    rw [List.set_set] at hX
    refine bodyPost_end (v := .tuple #[]) (by simp [results, Tryz.results53, go_sem]) rfl ⟨rfl, hX⟩

end Go.Proofs.YtdbbnkjnmldnpaaGreatDoor

/-
  Walks over Valid, Length, Ends and Privileged of package inst, and over the first word of an instruction. Condition: the tables read as the program's text lays them.
-/
namespace Go.Proofs.YtdbbnkjnmldnpaaGreatDoor
open Go.RowKit
set_option linter.unusedSimpArgs false
set_option linter.unusedVariables false
set_option maxHeartbeats 40000000
set_option maxRecDepth 100000
attribute [local irreducible] wpQuiet

def lenR (i : In) : Int := if vR i = true then nR i else 0
def endR (i : In) : Bool := vR i && (leR i.o || ccR i)
def prR (i : In) : Bool := decide (50 ≤ i.o ∧ i.o ≤ 52) && vR i
theorem formR_mem {o : Int} {e : Row} (h : formR o = some e) : e ∈ rows := List.mem_of_find?_eq_some h
theorem vR_some {i : In} {e : Row} (h : formR i.o = some e) : vR i = (hoR e i && !fbR i) := by unfold vR; rw [h]
theorem vR_none {i : In} (h : formR i.o = none) : vR i = false := by unfold vR; rw [h]
theorem fo_some {o : Int} {e : Row} (h : formR o = some e) {A : Addr} {c : Nat} (w : World) (W : Frm A c w) : Calls Tryz.prog 43 #[.int .i64 o] w fun e' w' => e' = .returned (.tuple #[.agg #[.int .i64 e.f, .int .i64 e.l, .int .i64 e.d, .int .i64 e.a, .int .i64 e.e0, .int .i64 e.e1, .int .i64 e.e2, .int .i64 e.e3, .int .i64 e.e4, .int .i64 e.e5], .bool true]) ∧ Below w.heap.size w w' := formOf_any o (some e) h w W
theorem fo_none {o : Int} (h : formR o = none) {A : Addr} {c : Nat} (w : World) (W : Frm A c w) : Calls Tryz.prog 43 #[.int .i64 o] w fun e' w' => e' = .returned (.tuple #[.agg #[.int .i64 0, .int .i64 0, .int .i64 0, .int .i64 0, .int .i64 0, .int .i64 0, .int .i64 0, .int .i64 0, .int .i64 0, .int .i64 0], .bool false]) ∧ Below w.heap.size w w' := formOf_any o none h w W
theorem valid_row {e : Row} (o : Int) (b : Bool) (m r x p q y g n : Int) (h : formR o = some e) {A : Addr} {c : Nat} (w : World) (W : Frm A c w) : Calls Tryz.prog 44 #[.agg #[.int .i64 o, .bool b, .int .i64 m, .int .i64 r, .int .i64 x, .int .i64 p, .int .i64 q, .int .i64 y, .int .i64 g, .int .i64 n], .agg #[.int .i64 e.f, .int .i64 e.l, .int .i64 e.d, .int .i64 e.a, .int .i64 e.e0, .int .i64 e.e1, .int .i64 e.e2, .int .i64 e.e3, .int .i64 e.e4, .int .i64 e.e5]] w fun e w' => e = .returned (.bool (vR ⟨o, b, m, r, x, p, q, y, g, n⟩)) ∧ Below w.heap.size w w' := by
  have ok := row_ok (formR_mem h)
  rw [vR_some (i := ⟨o, b, m, r, x, p, q, y, g, n⟩) h]
  exact instvalid_any e.f e.l e.d e.a e.e0 e.e1 e.e2 e.e3 e.e4 e.e5 ok.e3 ok.e4b ok.e5 o b m r x p q y g n w W

theorem Valid_any (o : Int) (b : Bool) (m r x p q y g n : Int) {A : Addr} {c : Nat} (W0 : World) (W : Frm A c W0) : Calls Tryz.prog 21 #[.agg #[.int .i64 o, .bool b, .int .i64 m, .int .i64 r, .int .i64 x, .int .i64 p, .int .i64 q, .int .i64 y, .int .i64 g, .int .i64 n]] W0 fun e w' => e = .returned (.bool (vR ⟨o, b, m, r, x, p, q, y, g, n⟩)) ∧ Below W0.heap.size W0 w' := by
  have hX := (St.start W).put [.int .i64 o, .bool b, .int .i64 m, .int .i64 r, .int .i64 x, .int .i64 p, .int .i64 q, .int .i64 y, .int .i64 g, .int .i64 n] 36
  cases hF : formR o with
  | none =>
    have hf := fun w (k : Frm A c w) => fo_none hF w k
    rw [vR_none (i := ⟨o, b, m, r, x, p, q, y, g, n⟩) hF]
    go_enter Tryz.func21, Tryz.ntmps21
    go_wp2_with fail
    obtain ⟨i0, i1, i2, i3, i4, i5, i6, i7, i8, i9⟩ := hX.ten 0 rfl
    generalize W0.alloc (.cells #[.int .i64 o, .bool b, .int .i64 m, .int .i64 r, .int .i64 x, .int .i64 p, .int .i64 q, .int .i64 y, .int .i64 g, .int .i64 n] 36) = w1 at *
    generalize hBB : W0.heap.size = B at hX i0 i1 i2 i3 i4 i5 i6 i7 i8 i9 ⊢
    go_wp2_with (first | (go_at_call 43; with_reducible refine (hf _ hX.frm).mono ?_; rintro _ w' ⟨rfl, hb⟩; have hX := (hX.step hb).put [.int .i64 0, .int .i64 0, .int .i64 0, .int .i64 0, .int .i64 0, .int .i64 0, .int .i64 0, .int .i64 0, .int .i64 0, .int .i64 0] 69; clear hb; obtain ⟨i0, i1, i2, i3, i4, i5, i6, i7, i8, i9⟩ := hX.ten 1 rfl; obtain ⟨c0, c1, c2, c3, c4, c5, c6, c7, c8, c9⟩ := hX.ten 0 rfl))
    go_ret
    exact ⟨rfl, by first | exact hX.below | exact hBB ▸ hX.below⟩
  | some e =>
    have hf := fun w (k : Frm A c w) => fo_some hF w k
    have hv := fun w (k : Frm A c w) => valid_row (e := e) o b m r x p q y g n hF w k
    generalize vR ⟨o, b, m, r, x, p, q, y, g, n⟩ = VV at *
    go_enter Tryz.func21, Tryz.ntmps21
    go_wp2_with fail
    obtain ⟨i0, i1, i2, i3, i4, i5, i6, i7, i8, i9⟩ := hX.ten 0 rfl
    generalize W0.alloc (.cells #[.int .i64 o, .bool b, .int .i64 m, .int .i64 r, .int .i64 x, .int .i64 p, .int .i64 q, .int .i64 y, .int .i64 g, .int .i64 n] 36) = w1 at *
    generalize hBB : W0.heap.size = B at hX i0 i1 i2 i3 i4 i5 i6 i7 i8 i9 ⊢
    go_wp2_with (first | (go_at_call 43; with_reducible refine (hf _ hX.frm).mono ?_; rintro _ w' ⟨rfl, hb⟩; have hX := (hX.step hb).put [.int .i64 e.f, .int .i64 e.l, .int .i64 e.d, .int .i64 e.a, .int .i64 e.e0, .int .i64 e.e1, .int .i64 e.e2, .int .i64 e.e3, .int .i64 e.e4, .int .i64 e.e5] 69; clear hb; obtain ⟨i0, i1, i2, i3, i4, i5, i6, i7, i8, i9⟩ := hX.ten 1 rfl; obtain ⟨c0, c1, c2, c3, c4, c5, c6, c7, c8, c9⟩ := hX.ten 0 rfl) | (go_at_call 44; with_reducible refine (hv _ hX.frm).mono ?_; rintro _ w' ⟨rfl, hb⟩; have hX := hX.step hb; clear hb))
    go_ret
    exact ⟨rfl, by first | exact hX.below | exact hBB ▸ hX.below⟩

theorem Length_any (o : Int) (b : Bool) (m r x p q y g n : Int) {A : Addr} {c : Nat} (W0 : World) (W : Frm A c W0) : Calls Tryz.prog 74 #[.agg #[.int .i64 o, .bool b, .int .i64 m, .int .i64 r, .int .i64 x, .int .i64 p, .int .i64 q, .int .i64 y, .int .i64 g, .int .i64 n]] W0 fun e w' => e = .returned (.int .i64 (lenR ⟨o, b, m, r, x, p, q, y, g, n⟩)) ∧ Below W0.heap.size W0 w' := by
  have hX := (St.start W).put [.int .i64 o, .bool b, .int .i64 m, .int .i64 r, .int .i64 x, .int .i64 p, .int .i64 q, .int .i64 y, .int .i64 g, .int .i64 n] 36
  have hv := fun w (k : Frm A c w) => Valid_any o b m r x p q y g n w k
  have hw := fun w (k : Frm A c w) => words_any o b m r x p q y g n w k
  unfold lenR
  generalize vR ⟨o, b, m, r, x, p, q, y, g, n⟩ = VV at *
  generalize nR ⟨o, b, m, r, x, p, q, y, g, n⟩ = NN at *
  cases VV
  · rw [if_neg (by decide)]
    go_enter Tryz.func74, Tryz.ntmps74
    go_wp2_with fail
    obtain ⟨i0, i1, i2, i3, i4, i5, i6, i7, i8, i9⟩ := hX.ten 0 rfl
    generalize W0.alloc (.cells #[.int .i64 o, .bool b, .int .i64 m, .int .i64 r, .int .i64 x, .int .i64 p, .int .i64 q, .int .i64 y, .int .i64 g, .int .i64 n] 36) = w1 at *
    generalize hBB : W0.heap.size = B at hX i0 i1 i2 i3 i4 i5 i6 i7 i8 i9 ⊢
    go_wp2_with (first | (go_at_call 21; with_reducible refine (hv _ hX.frm).mono ?_; rintro e w' ⟨rfl, hb⟩; have hX := hX.step hb; obtain ⟨i0, i1, i2, i3, i4, i5, i6, i7, i8, i9⟩ := hX.ten 0 rfl; clear hb))
    go_ret
    exact ⟨rfl, by first | exact hX.below | exact hBB ▸ hX.below⟩
  · rw [if_pos rfl]
    go_enter Tryz.func74, Tryz.ntmps74
    go_wp2_with fail
    obtain ⟨i0, i1, i2, i3, i4, i5, i6, i7, i8, i9⟩ := hX.ten 0 rfl
    generalize W0.alloc (.cells #[.int .i64 o, .bool b, .int .i64 m, .int .i64 r, .int .i64 x, .int .i64 p, .int .i64 q, .int .i64 y, .int .i64 g, .int .i64 n] 36) = w1 at *
    generalize hBB : W0.heap.size = B at hX i0 i1 i2 i3 i4 i5 i6 i7 i8 i9 ⊢
    go_wp2_with (first | (go_at_call 21; with_reducible refine (hv _ hX.frm).mono ?_; rintro e w' ⟨rfl, hb⟩; have hX := hX.step hb; obtain ⟨i0, i1, i2, i3, i4, i5, i6, i7, i8, i9⟩ := hX.ten 0 rfl; clear hb) | (go_at_call 52; with_reducible refine (hw _ hX.frm).mono ?_; rintro e w' ⟨rfl, hb⟩; have hX := hX.step hb; obtain ⟨i0, i1, i2, i3, i4, i5, i6, i7, i8, i9⟩ := hX.ten 0 rfl; clear hb))
    go_ret
    exact ⟨rfl, by first | exact hX.below | exact hBB ▸ hX.below⟩

end Go.Proofs.YtdbbnkjnmldnpaaGreatDoor
