/-
  Walks over the statement OctetTexts: whatever the input, it answers true. Condition: the table of package octet holds what its initialiser lays; the text is at most as long as an argument can be.
-/
import Derived.Test.YtbcnehjpondplaaDoorOcJ
namespace Go.Proofs.YtbcnehjpondplaaDoor
open Go.RowKit
set_option linter.unusedSimpArgs false
set_option maxHeartbeats 1000000
set_option maxRecDepth 100000

/-- New bytes, all zero, as a text. -/
theorem made_conv (n : Nat) (w : World) : (convert 32 9 (.slice (some ⟨w.heap.size, 0, none⟩) n n)).run Tryd.prog (w.alloc (.cells (madeCells #[.int .u8 0] n) 5)) = .ok (.string ⟨(List.replicate n (0 : UInt8)).toArray⟩) (w.alloc (.cells (madeCells #[.int .u8 0] n) 5)) := by
  have h := World.rowIs_made w (.int .u8 0) n 5
  have e := run_convert_bytes_back (P := Tryd.prog) (w.alloc (.cells (madeCells #[.int .u8 0] n) 5)) 32 9 5 ⟨w.heap.size, 0, none⟩ n (List.replicate n 0) Tryd.underlying32 Tryd.underlying5 Tryd.underlying9 (fun j hj => by
    have e1 : (⟨w.heap.size, 0, none⟩ : Addr).add j = ⟨w.heap.size, j, none⟩ := by unfold Addr.add; split <;> simp_all
    have hj' : j < n := by simpa using hj
    rw [e1, h.cell hj']
    simp)
  rw [List.length_replicate] at e
  exact e

theorem below_made (w : World) (o : Obj) : Below w.heap.size w (w.alloc o) := (Below.refl _ _).alloc (Nat.le_refl _) o
theorem texts_law (s : ByteArray) (a m : Int) (hs : s.size ≤ 9223372036854775807) (w : World) (W : Tabs w) :
    Calls Tryd.prog 5 #[.string s, .int .i64 a, .int .u8 m] w fun e w' => e = .returned (.bool true) ∧ Below w.heap.size w w' := by
  have hB : Below w.heap.size w w := Below.refl _ _
  by_cases hbig : 2000 < s.size
  · go_enter Tryd.func5, Tryd.ntmps5
    go_wp2_with (first
      | (go_at_call 12; with_reducible refine (alive_any _ W).mono ?_; rintro e w' ⟨rfl, hb⟩; have hB := hB.trans (hb.mono hB.size); clear hb))
    go_ret
    exact ⟨rfl, hB⟩
  · have hg := fun w => gtext_any s a (by omega) w
    have hr := fun w => rgtext_any s a (by omega) w
    have hp := fun w => ptext_any s (by omega) w
    have hq := fun w => rptext_any s (by omega) w
    have hmk : ∀ w : World, (Instr.makeSlice 32 (.int .i64 65540) (.int .i64 65540)).run Tryd.prog w = .ok (.slice (some ⟨w.heap.size, 0, none⟩) 65540 65540) (w.alloc (.cells (madeCells #[.int .u8 0] 65540) 5)) :=
      fun w => run_make_row' (P := Tryd.prog) 32 5 (.int .u8 0) 1 Tryd.underlying32 info8 rfl .i64 .i64 65540 (by omega) (by omega) w
    have hcv := made_conv 65540
    have hZ : ByteArray.size ⟨(List.replicate 65540 (0 : UInt8)).toArray⟩ = 65540 := by rw [ba_size, List.length_replicate]
    generalize (⟨(List.replicate 65540 (0 : UInt8)).toArray⟩ : ByteArray) = Z at *
    have hz := fun w => ptext_any Z (by omega) w
    have hz := fun w : World => (hz (w.alloc (.cells (madeCells #[.int .u8 0] 65540) 5))).mono fun e w' (h : _ ∧ _) => (⟨h.1, (below_made w _).trans (h.2.mono (below_made w _).size)⟩ : _ ∧ Below w.heap.size w w')
    have hY : ByteArray.size ⟨(ptxt Z.data.toList).toArray⟩ = 65537 := by
      rw [ba_size, ptxt_length, size_len, hZ]; rfl
    generalize (⟨(ptxt Z.data.toList).toArray⟩ : ByteArray) = Y at *
    unfold tV at hg hr
    generalize (⟨(gtxt s.data.toList a).1.toArray⟩ : ByteArray) = X at *
    generalize (gtxt s.data.toList a).2.1 = F at *
    generalize (gtxt s.data.toList a).2.2 = E at *
    generalize (⟨(ptxt s.data.toList).toArray⟩ : ByteArray) = Q at *
    by_cases hm : m = 0
    · subst hm
      go_enter Tryd.func5, Tryd.ntmps5
      go_wp2_with (first
        | (go_at_call 15; with_reducible refine (hg _).mono ?_; rintro e w' ⟨rfl, rfl⟩)
        | (go_at_call 16; with_reducible refine (hr _).mono ?_; rintro e w' ⟨rfl, rfl⟩)
        | (go_at_call 17; with_reducible refine (hp _).mono ?_; rintro e w' ⟨rfl, hb⟩; have W := W.below hb; have hB := hB.trans (hb.mono hB.size); clear hb)
        | (go_at_call 18; with_reducible refine (hq _).mono ?_; rintro e w' ⟨rfl, hb⟩; have W := W.below hb; have hB := hB.trans (hb.mono hB.size); clear hb)
        | (go_at_call 17; with_reducible refine (hz _).mono ?_; rintro e w' ⟨rfl, hb⟩; have W := W.below hb; have hB := hB.trans (hb.mono hB.size); clear hb)
        | (go_at_call 12; with_reducible refine (alive_any _ W).mono ?_; rintro e w' ⟨rfl, hb⟩; have hB := hB.trans (hb.mono hB.size); clear hb))
      go_ret
      exact ⟨rfl, hB⟩
    · go_enter Tryd.func5, Tryd.ntmps5
      have hm2 : (m != 0) = true := by rw [bne_iff_ne]; exact hm
      go_wp2_with (first
        | (go_at_call 15; with_reducible refine (hg _).mono ?_; rintro e w' ⟨rfl, rfl⟩)
        | (go_at_call 16; with_reducible refine (hr _).mono ?_; rintro e w' ⟨rfl, rfl⟩)
        | (go_at_call 17; with_reducible refine (hp _).mono ?_; rintro e w' ⟨rfl, hb⟩; have W := W.below hb; have hB := hB.trans (hb.mono hB.size); clear hb)
        | (go_at_call 18; with_reducible refine (hq _).mono ?_; rintro e w' ⟨rfl, hb⟩; have W := W.below hb; have hB := hB.trans (hb.mono hB.size); clear hb)
        | (go_at_call 12; with_reducible refine (alive_any _ W).mono ?_; rintro e w' ⟨rfl, hb⟩; have hB := hB.trans (hb.mono hB.size); clear hb))
      go_ret
      exact ⟨rfl, hB⟩

end Go.Proofs.YtbcnehjpondplaaDoor
