/-
  Walks over the statements PswGets, PswForms, PswTexts and PswSays: whatever the input, they answer true. No condition.
-/
import Derived.Test.YtmihnfaccklkpaaPsD
namespace Go.Proofs.Ytmihnfaccklkpaa
open Go.RowKit
set_option linter.unusedSimpArgs false
set_option maxHeartbeats 1000000
set_option maxRecDepth 100000

theorem alive_any (w : World) : Calls Try.prog 20 #[] w fun e w' => e = .returned (.bool true) ∧ Below w.heap.size w w' := by
  have hB : Below w.heap.size w w := Below.refl _ _
  have q1 : ∀ w, Calls Try.prog 8 #[.int .i64 49407] w fun e w' => e = .returned (.bool true) ∧ w = w' := fun w => valid_any 49407 w
  have q2 : ∀ w, Calls Try.prog 8 #[.int .i64 256] w fun e w' => e = .returned (.bool false) ∧ w = w' := fun w => valid_any 256 w
  have q3 : ∀ w, Calls Try.prog 23 #[.int .i64 49167, .int .i64 224] w fun e w' => e = .returned (.int .i64 16608) ∧ w = w' := fun w => enter_any 49167 224 w
  have q4 : ∀ w, Calls Try.prog 25 #[.int .i64 49152, .int .i64 255] w fun e w' => e = .returned (.int .i64 49183) ∧ w = w' := fun w => return_any 49152 255 w
  have q5 : ∀ w, Calls Try.prog 27 #[.int .i64 49397] w fun e w' => e = .returned (.string ⟨#[117, 117, 55, 84, 45, 90, 45, 67]⟩) ∧ Below w.heap.size w w' := fun w => text_any 49397 w
  have q6 : ∀ w, Calls Try.prog 21 #[.int .i64 0, .int .i64 5] w fun e w' => e = .returned (.int .i64 5) ∧ w = w' := fun w => with_any 0 5 w
  go_enter Try.func20, Try.ntmps20
  go_wp2_with (first
    | (go_at_call 8; with_reducible refine (q1 _).mono ?_; rintro e w' ⟨rfl, rfl⟩)
    | (go_at_call 8; with_reducible refine (q2 _).mono ?_; rintro e w' ⟨rfl, rfl⟩)
    | (go_at_call 23; with_reducible refine (q3 _).mono ?_; rintro e w' ⟨rfl, rfl⟩)
    | (go_at_call 25; with_reducible refine (q4 _).mono ?_; rintro e w' ⟨rfl, rfl⟩)
    | (go_at_call 27; with_reducible refine (q5 _).mono ?_; rintro e w' ⟨rfl, hb⟩; have hB := hB.trans (hb.mono hB.size); clear hb)
    | (go_at_call 21; with_reducible refine (q6 _).mono ?_; rintro e w' ⟨rfl, rfl⟩))
  go_ret
  exact ⟨rfl, hB⟩

theorem gets_law (n : Int) (w : World) : Calls Try.prog 3 #[.int .i64 n] w fun e w' => e = .returned (.bool true) ∧ Below w.heap.size w w' := by
  have k1 := fun w => valid_any n w
  have k2 := fun w => rvalid_any n w
  have k3 := fun w => trace_any n w
  have k4 := fun w => rtrace_any n w
  generalize vd n = V at *
  generalize tb n = T at *
  go_enter Try.func3, Try.ntmps3
  go_wp2_with (first
    | (go_at_call 8; with_reducible refine (k1 _).mono ?_; rintro e w' ⟨rfl, rfl⟩)
    | (go_at_call 9; with_reducible refine (k2 _).mono ?_; rintro e w' ⟨rfl, rfl⟩)
    | (go_at_call 18; with_reducible refine (k3 _).mono ?_; rintro e w' ⟨rfl, rfl⟩)
    | (go_at_call 19; with_reducible refine (k4 _).mono ?_; rintro e w' ⟨rfl, rfl⟩)
    | (go_at_call 10; with_reducible refine (mode_any n _).mono ?_; rintro e w' ⟨rfl, rfl⟩)
    | (go_at_call 11; with_reducible refine (rmode_any n _).mono ?_; rintro e w' ⟨rfl, rfl⟩)
    | (go_at_call 12; with_reducible refine (prev_any n _).mono ?_; rintro e w' ⟨rfl, rfl⟩)
    | (go_at_call 13; with_reducible refine (rprev_any n _).mono ?_; rintro e w' ⟨rfl, rfl⟩)
    | (go_at_call 14; with_reducible refine (prio_any n _).mono ?_; rintro e w' ⟨rfl, rfl⟩)
    | (go_at_call 15; with_reducible refine (rprio_any n _).mono ?_; rintro e w' ⟨rfl, rfl⟩)
    | (go_at_call 16; with_reducible refine (flags_any n _).mono ?_; rintro e w' ⟨rfl, rfl⟩)
    | (go_at_call 17; with_reducible refine (rflags_any n _).mono ?_; rintro e w' ⟨rfl, rfl⟩)
    | (go_at_call 20; with_reducible refine (alive_any _).mono ?_; rintro e w' ⟨rfl, hb⟩))
  go_ret
  exact ⟨rfl, hb⟩

theorem forms_law (n m : Int) (w : World) : Calls Try.prog 4 #[.int .i64 n, .int .i64 m] w fun e w' => e = .returned (.bool true) ∧ Below w.heap.size w w' := by
  go_enter Try.func4, Try.ntmps4
  go_wp2_with (first
    | (go_at_call 21; with_reducible refine (with_any n m _).mono ?_; rintro e w' ⟨rfl, rfl⟩)
    | (go_at_call 22; with_reducible refine (rwith_any n m _).mono ?_; rintro e w' ⟨rfl, rfl⟩)
    | (go_at_call 23; with_reducible refine (enter_any n m _).mono ?_; rintro e w' ⟨rfl, rfl⟩)
    | (go_at_call 24; with_reducible refine (renter_any n m _).mono ?_; rintro e w' ⟨rfl, rfl⟩)
    | (go_at_call 25; with_reducible refine (return_any n m _).mono ?_; rintro e w' ⟨rfl, rfl⟩)
    | (go_at_call 26; with_reducible refine (rreturn_any n m _).mono ?_; rintro e w' ⟨rfl, rfl⟩)
    | (go_at_call 20; with_reducible refine (alive_any _).mono ?_; rintro e w' ⟨rfl, hb⟩))
  go_ret
  exact ⟨rfl, hb⟩

theorem texts_law (n : Int) (w : World) : Calls Try.prog 5 #[.int .i64 n] w fun e w' => e = .returned (.bool true) ∧ Below w.heap.size w w' := by
  have hB : Below w.heap.size w w := Below.refl _ _
  have k1 := fun w => text_any n w
  have k2 := fun w => rtext_any n w
  generalize (⟨(tx n).toArray⟩ : ByteArray) = X at *
  go_enter Try.func5, Try.ntmps5
  go_wp2_with (first
    | (go_at_call 27; with_reducible refine (k1 _).mono ?_; rintro e w' ⟨rfl, hb⟩; have hB := hB.trans (hb.mono hB.size); clear hb)
    | (go_at_call 28; with_reducible refine (k2 _).mono ?_; rintro e w' ⟨rfl, hb⟩; have hB := hB.trans (hb.mono hB.size); clear hb)
    | (go_at_call 20; with_reducible refine (alive_any _).mono ?_; rintro e w' ⟨rfl, hb⟩; have hB := hB.trans (hb.mono hB.size); clear hb))
  go_ret
  exact ⟨rfl, hB⟩

theorem tx_len (n : Int) : ByteArray.size ⟨(tx n).toArray⟩ = 8 := rfl
theorem tx_eq (a b : Int) : ((⟨(tx a).toArray⟩ : ByteArray) = ⟨(tx b).toArray⟩) ↔ ex (bits .xor .i64 a b) = 0 := by
  rw [xor_ex, ← tx_iff]
  constructor
  · intro h
    have := congrArg (fun x : ByteArray => x.data.toList) h
    simpa using this
  · intro h; rw [h]
theorem says_law (a b : Int) (w : World) : Calls Try.prog 7 #[.int .i64 a, .int .i64 b] w fun e w' => e = .returned (.bool true) ∧ Below w.heap.size w w' := by
  have hB : Below w.heap.size w w := Below.refl _ _
  have k1 := fun w => text_any a w
  have k2 := fun w => text_any b w
  have hs := tx_len a
  have he := tx_eq a b
  have A := a49407 (bits .xor .i64 a b)
  generalize (⟨(tx a).toArray⟩ : ByteArray) = X at *
  generalize (⟨(tx b).toArray⟩ : ByteArray) = Y at *
  generalize ex (bits .xor .i64 a b) = E at *
  by_cases hE : E = 0
  · obtain rfl := he.2 hE
    subst hE
    clear he
    go_enter Try.func7, Try.ntmps7
    go_wp2_with (first
      | (go_at_call 27; with_reducible refine (k1 _).mono ?_; rintro e w' ⟨rfl, hb⟩; have hB := hB.trans (hb.mono hB.size); clear hb)
      | (go_at_call 27; with_reducible refine (k2 _).mono ?_; rintro e w' ⟨rfl, hb⟩; have hB := hB.trans (hb.mono hB.size); clear hb)
      | (go_at_call 20; with_reducible refine (alive_any _).mono ?_; rintro e w' ⟨rfl, hb⟩; have hB := hB.trans (hb.mono hB.size); clear hb))
    go_ret
    exact ⟨rfl, hB⟩
  · have hne : X ≠ Y := fun h => hE (he.1 h)
    have h1 : (E == 0) = false := by simpa using hE
    have h2 : (X.toList == Y.toList) = false := by
      rw [beq_eq_false_iff_ne]
      intro h
      rw [Lib.toList_data, Lib.toList_data] at h
      exact hne (ByteArray.ext (Array.toList_inj.1 h))
    clear he hE hne
    go_enter Try.func7, Try.ntmps7
    go_wp2_with (first
      | (go_at_call 27; with_reducible refine (k1 _).mono ?_; rintro e w' ⟨rfl, hb⟩; have hB := hB.trans (hb.mono hB.size); clear hb)
      | (go_at_call 27; with_reducible refine (k2 _).mono ?_; rintro e w' ⟨rfl, hb⟩; have hB := hB.trans (hb.mono hB.size); clear hb)
      | (go_at_call 20; with_reducible refine (alive_any _).mono ?_; rintro e w' ⟨rfl, hb⟩; have hB := hB.trans (hb.mono hB.size); clear hb))
    go_ret
    exact ⟨rfl, hB⟩

end Go.Proofs.Ytmihnfaccklkpaa
