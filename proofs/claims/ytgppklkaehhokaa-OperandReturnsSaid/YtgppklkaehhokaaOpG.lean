/-
  Walks over the statements OperandReturns: whatever the input, it answers true. No condition.
-/
import Derived.Test.YtgppklkaehhokaaOpF
namespace Go.Proofs.Ytgppklkaehhokaa
open Go.RowKit
set_option linter.unusedSimpArgs false
set_option maxHeartbeats 4000000
set_option maxRecDepth 100000
attribute [local irreducible] wpQuiet

theorem returns_law (m r x f : Int) (hf : 0 ≤ f ∧ f ≤ 255) (w : World) : Calls Try.prog 6 #[.agg #[.int .i64 m, .int .i64 r, .int .i64 x], .int .u8 f] w fun e w' => e = .returned (.bool true) ∧ Below w.heap.size w w' := by
  have A := a63 f
  have hN : 0 ≤ f % 64 ∧ f % 64 ≤ 63 := by omega
  have p1 := fun w => from_any (f % 64) w
  have p2 := fun w => field_any (f % 64 / 8 % 8) (f % 64 % 8) 0 w
  rw [fd_from _ hN] at p2
  have p3 := fun w => valid_any (f % 64 / 8 % 8) (f % 64 % 8) 0 w
  rw [vd_from] at p3
  generalize f % 64 / 8 % 8 = M at *
  generalize f % 64 % 8 = N at *
  generalize f % 64 = Z at *
  have V : IntKind.i64.wrap f = f := by rw [wrap_i64]; exact IntWalk.wrap64_in _ ⟨by omega, by omega⟩
  clear hN
  have v1 := fun w => valid_any m r x w
  have v2 := fun w => field_any m r x w
  have hl := fd_low m r
  have p4 := fun w => from_any (fdR m r) w
  rw [hl.1, hl.2] at p4
  clear hl
  generalize fdR m r = Y at *
  have v3 := fun w => ext_any m r x w
  have v4 := fun w => ext_any m r 0 w
  have hX := Bx.put m r x w
  cases hV : vdR m r x
  · rw [hV] at v1
    clear hV
    go_enter Try.func6, Try.ntmps6
    go_wp2_with fail
    have c0 := hX.c0
    have c1 := hX.c1
    have c2 := hX.c2
    generalize w.alloc (.cells #[.int .i64 m, .int .i64 r, .int .i64 x] 23) = w1 at *
    generalize hBB : w.heap.size = B at hX c0 c1 c2 ⊢
    go_wp2_with (first | (go_at_call 15; with_reducible refine (p1 _).mono ?_; rintro e w' ⟨rfl, hb⟩; have hX := hX.step hb; have c0 := hX.c0; have c1 := hX.c1; have c2 := hX.c2; clear hb) | (go_at_call 13; with_reducible refine (p2 _).mono ?_; rintro e w' ⟨rfl, hb⟩; have hX := hX.step hb; have c0 := hX.c0; have c1 := hX.c1; have c2 := hX.c2; clear hb) | (go_at_call 8; with_reducible refine (p3 _).mono ?_; rintro e w' ⟨rfl, hb⟩; have hX := hX.step hb; have c0 := hX.c0; have c1 := hX.c1; have c2 := hX.c2; clear hb) | (go_at_call 13; with_reducible refine (v2 _).mono ?_; rintro e w' ⟨rfl, hb⟩; have hX := hX.step hb; have c0 := hX.c0; have c1 := hX.c1; have c2 := hX.c2; clear hb) | (go_at_call 15; with_reducible refine (p4 _).mono ?_; rintro e w' ⟨rfl, hb⟩; have hX := hX.step hb; have hY := hX.more m r 0; have hX := hX.alloc (.cells #[.int .i64 m, .int .i64 r, .int .i64 0] 23); have c0 := hX.c0; have c1 := hX.c1; have c2 := hX.c2; have d0 := hY.c0; have d1 := hY.c1; have d2 := hY.c2; clear hb) | (go_at_call 17; with_reducible refine (v3 _).mono ?_; rintro e w' ⟨rfl, hb⟩; have hY := hY.step hb; have hX := hX.step hb; have c0 := hX.c0; have c1 := hX.c1; have c2 := hX.c2; have d0 := hY.c0; have d1 := hY.c1; have d2 := hY.c2; clear hb) | (go_at_call 17; with_reducible refine (v4 _).mono ?_; rintro e w' ⟨rfl, hb⟩; have hY := hY.step hb; have hX := hX.step hb; have c0 := hX.c0; have c1 := hX.c1; have c2 := hX.c2; have d0 := hY.c0; have d1 := hY.c1; have d2 := hY.c2; clear hb) | (go_at_call 12; with_reducible refine (alive_any _).mono ?_; rintro e w' ⟨rfl, hb⟩; have hY := hY.step hb; have hX := hX.step hb; have c0 := hX.c0; have c1 := hX.c1; have c2 := hX.c2; have d0 := hY.c0; have d1 := hY.c1; have d2 := hY.c2; clear hb) | (go_at_call 8; with_reducible refine (v1 _).mono ?_; rintro e w' ⟨rfl, hb⟩; have hX := hX.step hb; have c0 := hX.c0; have c1 := hX.c1; have c2 := hX.c2; clear hb) | (go_at_call 12; with_reducible refine (alive_any _).mono ?_; rintro e w' ⟨rfl, hb⟩; have hX := hX.step hb; have c0 := hX.c0; have c1 := hX.c1; have c2 := hX.c2; clear hb))
    go_ret
    exact ⟨rfl, by first | exact hX.below | exact hBB ▸ hX.below⟩
  · have hp := vd_parts hV
    rw [hV] at v1
    clear hV
    obtain ⟨hp, hx⟩ := hp
    have h1 : m % 8 = m := by omega
    have h2 : r % 8 = r := by omega
    rw [h1, h2] at p4 v3 v4
    clear h1 h2 hp
    generalize exR m r = E at *
    cases E
    · obtain rfl : x = 0 := by simpa using hx
      clear hx
      go_enter Try.func6, Try.ntmps6
      go_wp2_with fail
      have c0 := hX.c0
      have c1 := hX.c1
      have c2 := hX.c2
      generalize w.alloc (.cells #[.int .i64 m, .int .i64 r, .int .i64 0] 23) = w1 at *
      generalize hBB : w.heap.size = B at hX c0 c1 c2 ⊢
      go_wp2_with (first | (go_at_call 15; with_reducible refine (p1 _).mono ?_; rintro e w' ⟨rfl, hb⟩; have hX := hX.step hb; have c0 := hX.c0; have c1 := hX.c1; have c2 := hX.c2; clear hb) | (go_at_call 13; with_reducible refine (p2 _).mono ?_; rintro e w' ⟨rfl, hb⟩; have hX := hX.step hb; have c0 := hX.c0; have c1 := hX.c1; have c2 := hX.c2; clear hb) | (go_at_call 8; with_reducible refine (p3 _).mono ?_; rintro e w' ⟨rfl, hb⟩; have hX := hX.step hb; have c0 := hX.c0; have c1 := hX.c1; have c2 := hX.c2; clear hb) | (go_at_call 13; with_reducible refine (v2 _).mono ?_; rintro e w' ⟨rfl, hb⟩; have hX := hX.step hb; have c0 := hX.c0; have c1 := hX.c1; have c2 := hX.c2; clear hb) | (go_at_call 15; with_reducible refine (p4 _).mono ?_; rintro e w' ⟨rfl, hb⟩; have hX := hX.step hb; have hY := hX.more m r 0; have hX := hX.alloc (.cells #[.int .i64 m, .int .i64 r, .int .i64 0] 23); have c0 := hX.c0; have c1 := hX.c1; have c2 := hX.c2; have d0 := hY.c0; have d1 := hY.c1; have d2 := hY.c2; clear hb) | (go_at_call 17; with_reducible refine (v3 _).mono ?_; rintro e w' ⟨rfl, hb⟩; have hY := hY.step hb; have hX := hX.step hb; have c0 := hX.c0; have c1 := hX.c1; have c2 := hX.c2; have d0 := hY.c0; have d1 := hY.c1; have d2 := hY.c2; clear hb) | (go_at_call 17; with_reducible refine (v4 _).mono ?_; rintro e w' ⟨rfl, hb⟩; have hY := hY.step hb; have hX := hX.step hb; have c0 := hX.c0; have c1 := hX.c1; have c2 := hX.c2; have d0 := hY.c0; have d1 := hY.c1; have d2 := hY.c2; clear hb) | (go_at_call 12; with_reducible refine (alive_any _).mono ?_; rintro e w' ⟨rfl, hb⟩; have hY := hY.step hb; have hX := hX.step hb; have c0 := hX.c0; have c1 := hX.c1; have c2 := hX.c2; have d0 := hY.c0; have d1 := hY.c1; have d2 := hY.c2; clear hb) | (go_at_call 8; with_reducible refine (v1 _).mono ?_; rintro e w' ⟨rfl, hb⟩; have hX := hX.step hb; have c0 := hX.c0; have c1 := hX.c1; have c2 := hX.c2; clear hb) | (go_at_call 12; with_reducible refine (alive_any _).mono ?_; rintro e w' ⟨rfl, hb⟩; have hX := hX.step hb; have c0 := hX.c0; have c1 := hX.c1; have c2 := hX.c2; clear hb))
      go_ret
      exact ⟨rfl, by first | exact hX.below | exact hBB ▸ hX.below⟩
    · clear hx
      go_enter Try.func6, Try.ntmps6
      go_wp2_with fail
      have c0 := hX.c0
      have c1 := hX.c1
      have c2 := hX.c2
      generalize w.alloc (.cells #[.int .i64 m, .int .i64 r, .int .i64 x] 23) = w1 at *
      generalize hBB : w.heap.size = B at hX c0 c1 c2 ⊢
      go_wp2_with (first | (go_at_call 15; with_reducible refine (p1 _).mono ?_; rintro e w' ⟨rfl, hb⟩; have hX := hX.step hb; have c0 := hX.c0; have c1 := hX.c1; have c2 := hX.c2; clear hb) | (go_at_call 13; with_reducible refine (p2 _).mono ?_; rintro e w' ⟨rfl, hb⟩; have hX := hX.step hb; have c0 := hX.c0; have c1 := hX.c1; have c2 := hX.c2; clear hb) | (go_at_call 8; with_reducible refine (p3 _).mono ?_; rintro e w' ⟨rfl, hb⟩; have hX := hX.step hb; have c0 := hX.c0; have c1 := hX.c1; have c2 := hX.c2; clear hb) | (go_at_call 13; with_reducible refine (v2 _).mono ?_; rintro e w' ⟨rfl, hb⟩; have hX := hX.step hb; have c0 := hX.c0; have c1 := hX.c1; have c2 := hX.c2; clear hb) | (go_at_call 15; with_reducible refine (p4 _).mono ?_; rintro e w' ⟨rfl, hb⟩; have hX := hX.step hb; have hY := hX.more m r 0; have hX := hX.alloc (.cells #[.int .i64 m, .int .i64 r, .int .i64 0] 23); have c0 := hX.c0; have c1 := hX.c1; have c2 := hX.c2; have d0 := hY.c0; have d1 := hY.c1; have d2 := hY.c2; clear hb) | (go_at_call 17; with_reducible refine (v3 _).mono ?_; rintro e w' ⟨rfl, hb⟩; have hY := hY.step hb; have hX := hX.step hb; have c0 := hX.c0; have c1 := hX.c1; have c2 := hX.c2; have d0 := hY.c0; have d1 := hY.c1; have d2 := hY.c2; clear hb) | (go_at_call 17; with_reducible refine (v4 _).mono ?_; rintro e w' ⟨rfl, hb⟩; have hY := hY.step hb; have hX := hX.step hb; have c0 := hX.c0; have c1 := hX.c1; have c2 := hX.c2; have d0 := hY.c0; have d1 := hY.c1; have d2 := hY.c2; clear hb) | (go_at_call 12; with_reducible refine (alive_any _).mono ?_; rintro e w' ⟨rfl, hb⟩; have hY := hY.step hb; have hX := hX.step hb; have c0 := hX.c0; have c1 := hX.c1; have c2 := hX.c2; have d0 := hY.c0; have d1 := hY.c1; have d2 := hY.c2; clear hb) | (go_at_call 8; with_reducible refine (v1 _).mono ?_; rintro e w' ⟨rfl, hb⟩; have hX := hX.step hb; have c0 := hX.c0; have c1 := hX.c1; have c2 := hX.c2; clear hb) | (go_at_call 12; with_reducible refine (alive_any _).mono ?_; rintro e w' ⟨rfl, hb⟩; have hX := hX.step hb; have c0 := hX.c0; have c1 := hX.c1; have c2 := hX.c2; clear hb))
      go_ret
      exact ⟨rfl, by first | exact hX.below | exact hBB ▸ hX.below⟩

end Go.Proofs.Ytgppklkaehhokaa
