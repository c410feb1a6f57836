/-
  Walks over the calls of package word that lie lowest. Condition: the table of widths holds its four numbers.
-/
import Derived.Test.YtpimdbglmoopcaaDoorProg
import Derived.Test.YtpimdbglmoopcaaDoorPlain
import Derived.WalkKit
import Derived.WalkSpells
import Derived.WalkLawsBesides
import Derived.Deep.RegionHeld3
import Derived.Deep.DeepCutAuto
import Derived.Deep.QuietTactic
import Derived.BigQuiet
import Derived.KernelRfl
namespace Go.Proofs.YtpimdbglmoopcaaDoor
open Go.RowKit

theorem ret_int {k : IntKind} {a b : Int} (h : a = b) : Ending.returned (.int k a) = .returned (.int k b) := by rw [h]
theorem hid {p : Prop} (h : p) : Hid p := h
theorem ret_bool {a b : Bool} (h : a = b) : Ending.returned (.bool a) = .returned (.bool b) := by rw [h]

/-- The table of widths as it lies in memory. -/
structure Wid (w : World) : Prop where
  size : 0 < w.heap.size
  c0 : w.cell? ⟨0, 0, none⟩ = some (.int .i64 65535)
  c1 : w.cell? ⟨0, 1, none⟩ = some (.int .i64 32768)
  c2 : w.cell? ⟨0, 2, none⟩ = some (.int .i64 255)
  c3 : w.cell? ⟨0, 3, none⟩ = some (.int .i64 128)

theorem Wid.below {w w' : World} (W : Wid w) (h : Below w.heap.size w w') : Wid w' :=
  ⟨Nat.lt_of_lt_of_le W.size h.size, by rw [h.cell (by exact W.size)]; exact W.c0, by rw [h.cell (by exact W.size)]; exact W.c1, by rw [h.cell (by exact W.size)]; exact W.c2, by rw [h.cell (by exact W.size)]; exact W.c3⟩

set_option maxHeartbeats 400000 in
theorem neg_any (m s n : Int) (w : World) :
    Calls Tryd.prog 43 #[.agg #[.int .i64 m, .int .i64 s], .int .i64 n] w fun e w' => e = .returned (.bool (ng s n)) ∧ Below w.heap.size w w' := by
  go_enter Tryd.func43, Tryd.ntmps43
  go_wp2
  go_ret
  exact ⟨rfl, (Below.refl _ _).alloc (Nat.le_refl _) _⟩

set_option maxHeartbeats 400000 in
theorem when_any (c : Int) (b : Bool) (w : World) :
    Calls Tryd.prog 45 #[.int .i64 c, .bool b] w fun e w' => e = .returned (.int .i64 (whn c b)) ∧ w = w' := by
  cases b
  all_goals
    go_enter Tryd.func45, Tryd.ntmps45
    go_wp2
    go_ret
    exact ⟨rfl, rfl⟩

set_option maxHeartbeats 400000 in
theorem widthOf_f (w : World) (W : Wid w) :
    Calls Tryd.prog 42 #[.bool false] w fun e w' => e = .returned (.agg #[.int .i64 65535, .int .i64 32768]) ∧ Below w.heap.size w w' := by
  obtain ⟨hs, h0, h1, h2, h3⟩ := W
  go_enter Tryd.func42, Tryd.ntmps42
  go_wp2
  refine bodyPost_ret (v := .agg #[.int .i64 65535, .int .i64 32768]) (by simp [results, Tryd.results42, go_sem]) rfl ⟨rfl, (Below.refl _ _).alloc (Nat.le_refl _) _⟩

set_option maxHeartbeats 400000 in
theorem widthOf_t (w : World) (W : Wid w) :
    Calls Tryd.prog 42 #[.bool true] w fun e w' => e = .returned (.agg #[.int .i64 255, .int .i64 128]) ∧ Below w.heap.size w w' := by
  obtain ⟨hs, h0, h1, h2, h3⟩ := W
  go_enter Tryd.func42, Tryd.ntmps42
  go_wp2
  refine bodyPost_ret (v := .agg #[.int .i64 255, .int .i64 128]) (by simp [results, Tryd.results42, go_sem]) rfl ⟨rfl, (Below.refl _ _).alloc (Nat.le_refl _) _⟩

/-- A block of the call's own that holds a width, and all that lay there before it is as it was. -/
theorem box_new (w : World) (m s : Int) : ((w.alloc (.cells #[.int .i64 m, .int .i64 s] 50)).drew.cell? ⟨w.heap.size, 0, none⟩ = some (.int .i64 m) ∧ (w.alloc (.cells #[.int .i64 m, .int .i64 s] 50)).drew.cell? ⟨w.heap.size, 1, none⟩ = some (.int .i64 s) ∧
    w.heap.size < (w.alloc (.cells #[.int .i64 m, .int .i64 s] 50)).drew.heap.size ∧ Below w.heap.size w (w.alloc (.cells #[.int .i64 m, .int .i64 s] 50)).drew) := by
  refine ⟨by simp, by simp, by simp, ((Below.refl _ _).alloc (Nat.le_refl _) _).drew⟩

theorem box_step {B b : Nat} {m s : Int} {w0 w1 w2 : World} (h : w1.cell? ⟨b, 0, none⟩ = some (.int .i64 m) ∧ w1.cell? ⟨b, 1, none⟩ = some (.int .i64 s) ∧ b < w1.heap.size ∧ Below B w0 w1) (hB : B ≤ b) (hb : Below w1.heap.size w1 w2) :
    w2.cell? ⟨b, 0, none⟩ = some (.int .i64 m) ∧ w2.cell? ⟨b, 1, none⟩ = some (.int .i64 s) ∧ b < w2.heap.size ∧ Below B w0 w2 := by
  obtain ⟨h0, h1, h2, h3⟩ := h
  exact ⟨by rw [hb.cell (by exact h2)]; exact h0, by rw [hb.cell (by exact h2)]; exact h1, Nat.lt_of_lt_of_le h2 hb.size, h3.trans (hb.mono (by omega))⟩

set_option maxHeartbeats 1000000 in
theorem flags_any (m s n : Int) (w : World) :
    Calls Tryd.prog 44 #[.agg #[.int .i64 m, .int .i64 s], .int .i64 n] w fun e w' => e = .returned (.int .i64 (fl m s n)) ∧ Below w.heap.size w w' := by
  go_enter Tryd.func44, Tryd.ntmps44
  go_wp2
  go_region_held3 (fun w' => w'.cell? ⟨w.heap.size, 0, none⟩ = some (.int .i64 m) ∧ w'.cell? ⟨w.heap.size, 1, none⟩ = some (.int .i64 s) ∧ w.heap.size < w'.heap.size ∧ Below w.heap.size w w')
    (first | exact box_new w m s | exact box_step (by assumption) (Nat.le_refl _) (by assumption) | assumption)
    (first | (go_at_call 43; refine (neg_any m s n _).mono ?_; rintro e w' ⟨rfl, hb⟩) | (go_at_call 45; refine (when_any _ _ _).mono ?_; rintro e w' ⟨rfl, rfl⟩))
  all_goals go_wp2
  all_goals go_ret
  all_goals exact ⟨rfl, (‹_ ∧ _ ∧ _ ∧ Below _ _ _›).2.2.2⟩

set_option maxHeartbeats 400000 in
theorem signed_any (m s n : Int) (w : World) :
    Calls Tryd.prog 56 #[.agg #[.int .i64 m, .int .i64 s], .int .i64 n] w fun e w' => e = .returned (.int .i64 (wrap64 (bits .xor .i64 (bits .and .i64 n m) s - s))) ∧ Below w.heap.size w w' := by
  go_enter Tryd.func56, Tryd.ntmps56
  go_wp2
  go_ret
  exact ⟨rfl, (Below.refl _ _).alloc (Nat.le_refl _) _⟩

set_option maxHeartbeats 400000 in
theorem wrap_any (n : Int) (w : World) (W : Wid w) :
    Calls Tryd.prog 38 #[.int .i64 n] w fun e w' => e = .returned (.int .i64 (n % 65536)) ∧ w = w' := by
  obtain ⟨hs, h0, h1, h2, h3⟩ := W
  go_enter Tryd.func38, Tryd.ntmps38
  go_wp2
  go_ret
  exact ⟨ret_int (and_65535 n), rfl⟩

set_option maxHeartbeats 400000 in
theorem Signed_any (n : Int) (w : World) (W : Wid w) :
    Calls Tryd.prog 48 #[.int .i64 n] w fun e w' => e = .returned (.int .i64 (sg false n)) ∧ Below w.heap.size w w' := by
  obtain ⟨hs, h0, h1, h2, h3⟩ := W
  go_enter Tryd.func48, Tryd.ntmps48
  go_wp2_with (go_at_call 56; refine (signed_any _ _ _ _).mono ?_; rintro e w' ⟨rfl, hb⟩)
  go_ret
  exact ⟨ret_int (sg_f n), hb⟩


set_option maxHeartbeats 400000 in
theorem Flags_any (b : Bool) (n : Int) (w : World) (W : Wid w) :
    Calls Tryd.prog 23 #[.int .i64 n, .bool b] w fun e w' => e = .returned (.int .i64 (cod (neg b n) (zer b n) false false)) ∧ Below w.heap.size w w' := by
  cases b
  · go_enter Tryd.func23, Tryd.ntmps23
    go_wp2_with (first | (go_at_call 42; refine (widthOf_f _ W).mono ?_; rintro e w' ⟨rfl, hb⟩) | (go_at_call 44; refine (flags_any _ _ _ _).mono ?_; rintro e w'' ⟨rfl, hb'⟩))
    go_ret
    exact ⟨ret_int (fl_f n), hb.trans (hb'.mono hb.size)⟩
  · go_enter Tryd.func23, Tryd.ntmps23
    go_wp2_with (first | (go_at_call 42; refine (widthOf_t _ W).mono ?_; rintro e w' ⟨rfl, hb⟩) | (go_at_call 44; refine (flags_any _ _ _ _).mono ?_; rintro e w'' ⟨rfl, hb'⟩))
    go_ret
    exact ⟨ret_int (fl_t n), hb.trans (hb'.mono hb.size)⟩

#print axioms Flags_any
end Go.Proofs.YtpimdbglmoopcaaDoor
