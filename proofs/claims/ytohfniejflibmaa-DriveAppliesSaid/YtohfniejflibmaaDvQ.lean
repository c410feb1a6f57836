/-
  slices.Repeat of one string, New of the program. Condition: at most 256 strings.
-/
import Derived.Test.YtohfniejflibmaaDvO
import Derived.Test.YtohfniejflibmaaShelfD
import Derived.Test.YtohfniejflibmaaHo
import Derived.Deep.OwnRows
import Derived.Laws.MakeOwn
import Derived.Laws.CopyOwn
namespace Go.Proofs.Ytohfniejflibmaa
open Go.RowKit
set_option linter.unusedSimpArgs false
set_option linter.unusedVariables false
set_option maxHeartbeats 4000000
set_option maxRecDepth 100000
attribute [local irreducible] wpQuiet

def Em (m : Nat) : List Value := List.replicate m (.string ⟨#[]⟩)
/-- A row of m strings, of which k are z. -/
def rowR (z : ByteArray) (m k : Nat) : List Value := List.replicate k (.string z) ++ List.replicate (m - k) (.string ⟨#[]⟩)
def zs (z : ByteArray) (n : Nat) : List Value := List.replicate n (.string z)
theorem zs_length (z : ByteArray) (n : Nat) : (zs z n).length = n := List.length_replicate
theorem zs_get {z : ByteArray} {n j : Nat} {v : Value} (h : (zs z n)[j]? = some v) : j < n ∧ v = .string z := by
  unfold zs at h
  rw [List.getElem?_replicate] at h
  split at h
  · rename_i hj; exact ⟨hj, by cases h; rfl⟩
  · cases h
theorem rowR_length {z : ByteArray} {m k : Nat} (h : k ≤ m) : (rowR z m k).length = m := by simp [rowR]; omega
theorem rowR_get {z : ByteArray} {m k j : Nat} (h : j < k) : (rowR z m k)[j]? = some (.string z) := by
  unfold rowR; rw [List.getElem?_append_left (by simpa using h), List.getElem?_replicate, if_pos h]
theorem rowR_splice (z : ByteArray) (m k n : Nat) (h : k + n ≤ m) : splice (rowR z m k) k (zs z n) = rowR z m (k + n) := by
  unfold splice rowR zs
  rw [List.take_left' (by simp), List.length_replicate]
  have e : List.drop (k + n) (List.replicate k (Value.string z) ++ List.replicate (m - k) (Value.string ⟨#[]⟩)) = List.replicate (m - (k + n)) (Value.string ⟨#[]⟩) := by
    rw [List.drop_append, List.length_replicate, List.drop_eq_nil_of_le (by simp), List.nil_append, List.drop_replicate]
    congr 1
    omega
  rw [e, ← List.append_assoc, List.replicate_append_replicate]
theorem rowR_zero (z : ByteArray) (m : Nat) : rowR z m 0 = Em m := by simp [rowR, Em]
theorem rowR_full (z : ByteArray) (m : Nat) : rowR z m m = List.replicate m (.string z) := by simp [rowR]
theorem made_row (x : Value) (n : Nat) : madeCells #[x] n = (List.replicate n x).toArray := by
  unfold madeCells
  apply Array.ext
  · simp
  · intro i h1 h2
    simp [Nat.mod_one]
theorem own_row {w : World} {B base m : Nat} {cs : List Value} {t : TypeId} (h : Blk t w B cs) (hl : cs.length = m) (hb : base ≤ B) (hm : m ≤ 256) : w.ownsRow base t 1 (.slice (some ⟨B, 0, none⟩) m m) m cs :=
  ⟨by rw [hl, Nat.mul_one], .inr ⟨B, m, cs.toArray, rfl, hb, h, Nat.le_refl _, by unfold maxLen; omega, by simp [hl], by simp [← hl]⟩⟩
theorem prep_any (z : ByteArray) (m : Nat) (h1 : 1 ≤ m) (h2 : m ≤ 256) (g c : Nat) (w : World) (hc : w.cell? ⟨g, 0, none⟩ = some (.string z)) (hg : g < w.heap.size) : Calls Try.prog 30 #[.slice (some ⟨g, 0, none⟩) 1 c, .int .i64 (m : Int)] w fun e w' => ∃ v, e = .returned v ∧ w'.ownsRow w.heap.size 9 1 v m (List.replicate m (.string z)) ∧ Below w.heap.size w w' := by
  have hmul : ∀ w : World, Calls Try.prog 39 #[.int .u64 1, .int .u64 (m : Int)] w fun e w' => e = .returned (.tuple #[.int .u64 0, .int .u64 (m : Int)]) ∧ w = w' := fun w => by
    have h := Try.bits_Mul 1 m (by omega) (by omega) w
    rw [show 1 * m / 18446744073709551616 = 0 from by omega, show 1 * m % 18446744073709551616 = m from by omega] at h
    exact h.mono fun e w' ⟨h1, h2⟩ => ⟨h1, h2.symm⟩
  have hm0 : ¬ ((m : Int) < 0) := by omega
  have hu : IntKind.u64.wrap (m : Int) = (m : Int) := by simp [IntKind.wrap, IntKind.bits, IntKind.signed]; omega
  have hi : IntKind.i64.wrap (m : Int) = (m : Int) := by rw [wrap_i64]; unfold wrap64; omega
  have d1 : decide ((9223372036854775807 : Int) < (m : Int)) = false := decide_eq_false (by omega)
  have d2 : ¬ ((9223372036854775807 : Int) < (m : Int)) := by omega
  have d3 : decide (9223372036854775807 < m) = false := decide_eq_false (by omega)
  have hmk : ∀ w : World, (Instr.makeSlice 22 (.int .i64 (m : Int)) (.int .i64 (m : Int))).run Try.prog w = .ok (.slice (some ⟨w.heap.size, 0, none⟩) m m) (w.alloc (.cells (Em m).toArray 9)) := fun w => by
    have h := run_make_row' 22 9 (.string ⟨#[]⟩) 16 Try.underlying22 infS rfl .i64 .i64 m (by omega) (by omega) w
    rw [made_row] at h
    exact h
  have hX := Blk.new 9 w (Em m)
  have hB : Below w.heap.size w (w.alloc (.cells (Em m).toArray 9)) := (Below.refl _ _).alloc (Nat.le_refl _) _
  have hcz : (w.alloc (.cells (Em m).toArray 9)).cell? ⟨g, 0, none⟩ = some (.string z) := (hB.cell hg).trans hc
  have hsrc : ∀ j v, (zs z 1)[j]? = some v → (w.alloc (.cells (Em m).toArray 9)).cell? ((⟨g, 0, none⟩ : Addr).add j) = some v := fun j v hv => by
    obtain ⟨hj, rfl⟩ := zs_get hv
    obtain rfl : j = 0 := by omega
    have e1 : (⟨g, 0, none⟩ : Addr).add 0 = ⟨g, 0, none⟩ := by unfold Addr.add; split <;> simp_all
    rw [e1]; exact hcz
  have hmin : (zs z 1).length = Nat.min 1 m := by rw [zs_length]; exact (Nat.min_eq_left h1).symm
  have hsp : splice (Em m) 0 (zs z 1) = rowR z m 1 := by rw [← rowR_zero z m]; exact (rowR_splice z m 0 1 (by omega)).trans (by rw [Nat.zero_add])
  have hel : (Em m).length = m := List.length_replicate
  have hone : ∀ n, ∀ u ∈ zs z n, u.oneCell' = true := fun n u hu => by rw [List.eq_of_mem_replicate hu]; rfl
  have hz1 : ((zs z 1).length : Int) = 1 := by rw [zs_length]; rfl
  clear hc
  have h1' := hid h1
  go_enter Try.func30, Try.ntmps30
  go_wp2_with (first | (go_at_call 39; (with_reducible refine (hmul _).mono ?_); rintro e w' ⟨rfl, rfl⟩) | ((with_reducible refine at_copy ?_); refine wpList_copy_splice rfl (.tmp 31) (.tmp 32) 22 22 rfl 9 Try.underlying22 (by kernel_rfl) (some ⟨w.heap.size, 0, none⟩) (some ⟨g, 0, none⟩) m m 1 c rfl rfl w.heap.size 0 (Em m) 9 hX (zs z 1) hmin (fun _ => ⟨rfl, _, rfl, hsrc⟩) (by rw [zs_length, hel]; omega) (hone 1) w.heap.size w hB (Nat.le_refl _) ?_; intro w2 HG HB; rw [hsp] at HG; rw [hz1]))
  clear hX hB hcz hmk hmul hsrc
  go_loopw [8] (fun nv wr => ∃ k : Nat, 1 ≤ k ∧ k ≤ m ∧ nv = .int .i64 k ∧ Hid (Blk 9 wr w.heap.size (rowR z m k)) ∧ Below w.heap.size w wr) (fun nv _ => match nv with | .int _ q => m - q.toNat | _ => 0)
  case atStart => exact ⟨1, Nat.le_refl _, h1', rfl, HG, HB⟩
  case round =>
    clear HG HB hmin hsp
    obtain ⟨k, hk1, hk, rfl, hX, hB⟩ := hrel
    by_cases hkm : k < m
    · have hki : (k : Int) < (m : Int) := by omega
      have hk0 : (0 : Int) ≤ (k : Int) := by omega
      have hkl : (k : Int) ≤ (m : Int) := by omega
      have hne : ¬ m = k := by omega
      have hne2 : ¬ k = m := by omega
      obtain ⟨n, hn⟩ : ∃ n, n = min k (m - k) := ⟨_, rfl⟩
      have hnz := zs_length z n
      have hw : IntKind.i64.wrap ((k : Int) + (n : Int)) = ((k + n : Nat) : Int) := by rw [wrap_i64]; unfold wrap64; omega
      have hsp : splice (rowR z m k) k (zs z n) = rowR z m (k + n) := rowR_splice z m k n (by omega)
      have hrl := rowR_length (z := z) hk
      have hnm : Hid (n = min k (m - k)) := hn
      have hcell : ∀ j v, (zs z n)[j]? = some v → wr.drew.cell? ((⟨w.heap.size, 0, none⟩ : Addr).add j) = some v := fun j v hv => by
        obtain ⟨hj, rfl⟩ := zs_get hv
        have e1 : (⟨w.heap.size, 0, none⟩ : Addr).add j = ⟨w.heap.size, j, none⟩ := by unfold Addr.add; split <;> simp_all
        rw [e1]
        exact (Blk.drew (show Blk 9 wr w.heap.size (rowR z m k) from hX)).cell (rowR_get (by omega))
      clear hn
      go_wp2
      go_region_law (refine step_copy_splice rfl (.tmp 41) (.tmp 44) 22 22 rfl 9 Try.underlying22 (by kernel_rfl) (some ⟨w.heap.size, k, none⟩) (some ⟨w.heap.size, 0, none⟩) (m - k) (m - k) k m (by simp [Act.eval, Act.put]) (by simp [Act.eval, Act.put]) w.heap.size k (rowR z m k) 9 hX (zs z n) (by rw [hnz]; exact hnm) (fun _ => ⟨rfl, _, rfl, hcell⟩) (by rw [hnz, hrl]; have := (show n = min k (m - k) from hnm); omega) (hone n) w.heap.size w hB.drew (Nat.le_refl _) ?_; intro w3 HG3 HB3; rw [hsp] at HG3; rw [hnz])
      all_goals
        simp only [List.getElem_toArray, List.getElem_cons_succ, List.getElem_cons_zero, Act.put, List.setIfInBounds_toArray, List.set_cons_succ, List.set_cons_zero]

        go_wp2
        exact ⟨⟨k + n, by omega, by have := (show n = min k (m - k) from hnm); omega, by go_num, HG3, HB3⟩, by have := (show n = min k (m - k) from hnm); simp only; omega⟩
    · obtain rfl : k = m := by omega
      have hki : ¬ (k : Int) < (k : Int) := by omega
      have hO := own_row (show Blk 9 wr w.heap.size (rowR z k k) from hX) (rowR_length (Nat.le_refl _)) (Nat.le_refl w.heap.size) h2
      rw [rowR_full] at hO
      go_wp2
      go_ret
      exact ⟨_, rfl, hO, hB⟩
end Go.Proofs.Ytohfniejflibmaa
