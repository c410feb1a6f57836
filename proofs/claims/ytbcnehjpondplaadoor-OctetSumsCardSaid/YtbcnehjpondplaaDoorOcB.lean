/-
  Walks over Put, PutText and GetText of package octet and of its reference. Condition: texts are at most as long as a length can be.
-/
import Derived.Test.YtbcnehjpondplaaDoorOcA
import Derived.Deep.OwnRows
import Derived.Laws.IdiomStrings
import Derived.Lib.IndexBytes
import Derived.Lib.UnsafeStr
import Derived.Maps.AppendAt
namespace Go.Proofs.YtbcnehjpondplaaDoor
open Go.RowKit
set_option linter.unusedSimpArgs false

theorem info8 : (Tryd.prog.info? 5).map (fun i => (i.zero, i.size, i.bytes)) = some (some (.int .u8 0), 1, 1) := by kernel_rfl

/-- Byte j of a number, as a cell. -/
def bt (N j : Nat) : Value := .int .u8 ((N / 256 ^ j % 256 : Nat) : Int)
theorem putN_at : ∀ (w n j : Nat) (h : j < (putN n w).length), ((putN n w)[j]'h).toNat = n / 256 ^ j % 256
  | 0, n, j, h => by simp [putN] at h
  | w + 1, n, 0, h => by simp [putN, u8_mod]
  | w + 1, n, j + 1, h => by
    have h' : j < (putN (n / 256) w).length := by rw [putN_length] at h ⊢; omega
    have e : (putN n (w + 1))[j + 1]'h = (putN (n / 256) w)[j]'h' := rfl
    rw [e, putN_at w (n / 256) j h', Nat.pow_succ, Nat.mul_comm (256 ^ j), Nat.div_div_eq_div_mul]
theorem row_conv {A W N : Nat} {w : World} {f : Nat → Value} (h : w.rowIs A 5 W f) (hf : ∀ j, j < W → f j = bt N j) :
    (convert 32 9 (.slice (some ⟨A, 0, none⟩) W W)).run Tryd.prog w = .ok (.string ⟨(putN N W).toArray⟩) w := by
  have hl := putN_length W N
  have e := run_convert_bytes_back (P := Tryd.prog) w 32 9 5 ⟨A, 0, none⟩ W (putN N W) Tryd.underlying32 Tryd.underlying5 Tryd.underlying9 (fun j hj => by
    have e1 : (⟨A, 0, none⟩ : Addr).add j = ⟨A, j, none⟩ := by unfold Addr.add; split <;> simp_all
    rw [e1, h.cell (by omega), hf j (by omega), bt, putN_at W N j hj])
  rw [hl] at e
  exact e
theorem row_step {A W N k : Nat} {w : World} (h : w.rowIs A 5 W (fun j => if j < k then bt N j else .int .u8 0)) (v : Value) (hv : v = bt N k) :
    (w.setCell ⟨A, k, none⟩ v).rowIs A 5 W (fun j => if j < k + 1 then bt N j else .int .u8 0) := by
  refine (h.set k v).congr fun j _ => ?_
  by_cases hjk : j = k
  · simp [hjk, hv]
  · simp only [if_neg hjk, show (j < k + 1) = (j < k) by apply propext; omega]

set_option maxHeartbeats 1000000

theorem put_pos_zero (N : Nat) (hN : N ≤ 9223372036854775807) (b : Int) (hb : b ≤ 0) (w : World) :
    Calls Tryd.prog 10 #[.int .i64 (N : Int), .int .i64 b] w fun e w' => e = .returned (.string ⟨(putN N 0).toArray⟩) ∧ Below w.heap.size w w' := by
  have hmk : ∀ w : World, (Instr.makeSlice 32 (.int .i64 0) (.int .i64 0)).run Tryd.prog w = .ok (.slice (some ⟨w.heap.size, 0, none⟩) 0 0) (w.alloc (.cells (madeCells #[.int .u8 0] 0) 5)) :=
    fun w => run_make_row' (P := Tryd.prog) 32 5 (.int .u8 0) 1 Tryd.underlying32 info8 rfl .i64 .i64 0 (by omega) (by omega) w
  go_enter Tryd.func10, Tryd.ntmps10
  go_wp2
  go_loopw [0, 15] (fun n i wr => ∃ k : Nat, k ≤ 0 ∧ i = .int .i64 k ∧ n = .int .i64 ((N / 256 ^ k : Nat) : Int) ∧ wr.rowIs w.heap.size 5 0 (fun j => if j < k then bt N j else .int .u8 0) ∧ Below w.heap.size w wr)
    (fun _ i _ => match i with | .int _ q => 0 - q.toNat | _ => 0)
  case atStart => exact ⟨0, Nat.zero_le _, rfl, by simp, (World.rowIs_made _ _ _ _).congr (fun j _ => by simp), (Below.refl _ _).alloc (Nat.le_refl _) _⟩
  case round =>
    obtain ⟨k, hk, rfl, rfl, hrow, hB⟩ := hrel
    by_cases hkl : k < 0
    · exact absurd hkl (Nat.not_lt_zero _)
    · have hkk : k = 0 := by omega
      have hcv := row_conv (N := N) hrow (fun j hj => if_pos (by omega))
      go_wp2
      go_ret
      exact ⟨rfl, hB⟩

theorem put_pos_mid (N : Nat) (hN : N ≤ 9223372036854775807) (W : Nat) (hW : 0 < W ∧ W ≤ 8) (w : World) :
    Calls Tryd.prog 10 #[.int .i64 (N : Int), .int .i64 (W : Int)] w fun e w' => e = .returned (.string ⟨(putN N W).toArray⟩) ∧ Below w.heap.size w w' := by
  have hmk : ∀ w : World, (Instr.makeSlice 32 (.int .i64 W) (.int .i64 W)).run Tryd.prog w = .ok (.slice (some ⟨w.heap.size, 0, none⟩) W W) (w.alloc (.cells (madeCells #[.int .u8 0] W) 5)) :=
    fun w => run_make_row' (P := Tryd.prog) 32 5 (.int .u8 0) 1 Tryd.underlying32 info8 rfl .i64 .i64 W (by omega) (by omega) w
  go_enter Tryd.func10, Tryd.ntmps10
  go_wp2
  go_loopw [0, 15] (fun n i wr => ∃ k : Nat, k ≤ W ∧ i = .int .i64 k ∧ n = .int .i64 ((N / 256 ^ k : Nat) : Int) ∧ wr.rowIs w.heap.size 5 W (fun j => if j < k then bt N j else .int .u8 0) ∧ Below w.heap.size w wr)
    (fun _ i _ => match i with | .int _ q => W - q.toNat | _ => 0)
  case atStart => exact ⟨0, Nat.zero_le _, rfl, by simp, (World.rowIs_made _ _ _ _).congr (fun j _ => by simp), (Below.refl _ _).alloc (Nat.le_refl _) _⟩
  case round =>
    obtain ⟨k, hk, rfl, rfl, hrow, hB⟩ := hrel
    by_cases hkl : k < W
    · have hbt : bt N k = .int .u8 ((N / 256 ^ k % 256 : Nat) : Int) := rfl
      have hq : N / 256 ^ (k + 1) = N / 256 ^ k / 256 := by rw [Nat.pow_succ, Nat.div_div_eq_div_mul]
      have hcell := hrow.cell hkl
      have hfr := hrow.frozen k
      have hNk : N / 256 ^ k ≤ N := Nat.div_le_self _ _
      have hQ := hid hq
      clear hq
      generalize N / 256 ^ k = q at *
      go_wp2
      refine ⟨⟨k + 1, by omega, by go_num, ?_, row_step hrow _ (by rw [hbt]; go_num), hB.setCell (Nat.le_refl _) _⟩, ?_⟩
      · unfold Hid at hQ; rw [hQ]; go_num
      · simp only; omega
    · have hkk : k = W := by omega
      have hcv := row_conv (N := N) hrow (fun j hj => if_pos (by omega))
      go_wp2
      go_ret
      exact ⟨rfl, hB⟩

theorem put_pos_big (N : Nat) (hN : N ≤ 9223372036854775807) (b : Int) (hb : 8 < b) (w : World) :
    Calls Tryd.prog 10 #[.int .i64 (N : Int), .int .i64 b] w fun e w' => e = .returned (.string ⟨(putN N 8).toArray⟩) ∧ Below w.heap.size w w' := by
  have hmk : ∀ w : World, (Instr.makeSlice 32 (.int .i64 8) (.int .i64 8)).run Tryd.prog w = .ok (.slice (some ⟨w.heap.size, 0, none⟩) 8 8) (w.alloc (.cells (madeCells #[.int .u8 0] 8) 5)) :=
    fun w => run_make_row' (P := Tryd.prog) 32 5 (.int .u8 0) 1 Tryd.underlying32 info8 rfl .i64 .i64 8 (by omega) (by omega) w
  go_enter Tryd.func10, Tryd.ntmps10
  go_wp2
  go_loopw [0, 15] (fun n i wr => ∃ k : Nat, k ≤ 8 ∧ i = .int .i64 k ∧ n = .int .i64 ((N / 256 ^ k : Nat) : Int) ∧ wr.rowIs w.heap.size 5 8 (fun j => if j < k then bt N j else .int .u8 0) ∧ Below w.heap.size w wr)
    (fun _ i _ => match i with | .int _ q => 8 - q.toNat | _ => 0)
  case atStart => exact ⟨0, Nat.zero_le _, rfl, by simp, (World.rowIs_made _ _ _ _).congr (fun j _ => by simp), (Below.refl _ _).alloc (Nat.le_refl _) _⟩
  case round =>
    obtain ⟨k, hk, rfl, rfl, hrow, hB⟩ := hrel
    by_cases hkl : k < 8
    · have hbt : bt N k = .int .u8 ((N / 256 ^ k % 256 : Nat) : Int) := rfl
      have hq : N / 256 ^ (k + 1) = N / 256 ^ k / 256 := by rw [Nat.pow_succ, Nat.div_div_eq_div_mul]
      have hcell := hrow.cell hkl
      have hfr := hrow.frozen k
      have hNk : N / 256 ^ k ≤ N := Nat.div_le_self _ _
      have hQ := hid hq
      clear hq
      generalize N / 256 ^ k = q at *
      go_wp2
      refine ⟨⟨k + 1, by omega, by go_num, ?_, row_step hrow _ (by rw [hbt]; go_num), hB.setCell (Nat.le_refl _) _⟩, ?_⟩
      · unfold Hid at hQ; rw [hQ]; go_num
      · simp only; omega
    · have hkk : k = 8 := by omega
      have hcv := row_conv (N := N) hrow (fun j hj => if_pos (by omega))
      go_wp2
      go_ret
      exact ⟨rfl, hB⟩

theorem put_neg_zero (n : Int) (hn : n < 0) (b : Int) (hb : b ≤ 0) (w : World) :
    Calls Tryd.prog 10 #[.int .i64 n, .int .i64 b] w fun e w' => e = .returned (.string ⟨(putN 0 0).toArray⟩) ∧ Below w.heap.size w w' := by
  have hmk : ∀ w : World, (Instr.makeSlice 32 (.int .i64 0) (.int .i64 0)).run Tryd.prog w = .ok (.slice (some ⟨w.heap.size, 0, none⟩) 0 0) (w.alloc (.cells (madeCells #[.int .u8 0] 0) 5)) :=
    fun w => run_make_row' (P := Tryd.prog) 32 5 (.int .u8 0) 1 Tryd.underlying32 info8 rfl .i64 .i64 0 (by omega) (by omega) w
  go_enter Tryd.func10, Tryd.ntmps10
  go_wp2
  go_loopw [0, 15] (fun n i wr => ∃ k : Nat, k ≤ 0 ∧ i = .int .i64 k ∧ n = .int .i64 ((0 / 256 ^ k : Nat) : Int) ∧ wr.rowIs w.heap.size 5 0 (fun j => if j < k then bt 0 j else .int .u8 0) ∧ Below w.heap.size w wr)
    (fun _ i _ => match i with | .int _ q => 0 - q.toNat | _ => 0)
  case atStart => exact ⟨0, Nat.zero_le _, rfl, by simp, (World.rowIs_made _ _ _ _).congr (fun j _ => by simp), (Below.refl _ _).alloc (Nat.le_refl _) _⟩
  case round =>
    obtain ⟨k, hk, rfl, rfl, hrow, hB⟩ := hrel
    by_cases hkl : k < 0
    · exact absurd hkl (Nat.not_lt_zero _)
    · have hkk : k = 0 := by omega
      have hcv := row_conv (N := 0) hrow (fun j hj => if_pos (by omega))
      go_wp2
      go_ret
      exact ⟨rfl, hB⟩

theorem put_neg_mid (n : Int) (hn : n < 0) (W : Nat) (hW : 0 < W ∧ W ≤ 8) (w : World) :
    Calls Tryd.prog 10 #[.int .i64 n, .int .i64 (W : Int)] w fun e w' => e = .returned (.string ⟨(putN 0 W).toArray⟩) ∧ Below w.heap.size w w' := by
  have hmk : ∀ w : World, (Instr.makeSlice 32 (.int .i64 W) (.int .i64 W)).run Tryd.prog w = .ok (.slice (some ⟨w.heap.size, 0, none⟩) W W) (w.alloc (.cells (madeCells #[.int .u8 0] W) 5)) :=
    fun w => run_make_row' (P := Tryd.prog) 32 5 (.int .u8 0) 1 Tryd.underlying32 info8 rfl .i64 .i64 W (by omega) (by omega) w
  go_enter Tryd.func10, Tryd.ntmps10
  go_wp2
  go_loopw [0, 15] (fun n i wr => ∃ k : Nat, k ≤ W ∧ i = .int .i64 k ∧ n = .int .i64 ((0 / 256 ^ k : Nat) : Int) ∧ wr.rowIs w.heap.size 5 W (fun j => if j < k then bt 0 j else .int .u8 0) ∧ Below w.heap.size w wr)
    (fun _ i _ => match i with | .int _ q => W - q.toNat | _ => 0)
  case atStart => exact ⟨0, Nat.zero_le _, rfl, by simp, (World.rowIs_made _ _ _ _).congr (fun j _ => by simp), (Below.refl _ _).alloc (Nat.le_refl _) _⟩
  case round =>
    obtain ⟨k, hk, rfl, rfl, hrow, hB⟩ := hrel
    by_cases hkl : k < W
    · have hbt : bt 0 k = .int .u8 ((0 / 256 ^ k % 256 : Nat) : Int) := rfl
      have hq : 0 / 256 ^ (k + 1) = 0 / 256 ^ k / 256 := by rw [Nat.pow_succ, Nat.div_div_eq_div_mul]
      have hcell := hrow.cell hkl
      have hfr := hrow.frozen k
      have hNk : 0 / 256 ^ k ≤ 0 := Nat.div_le_self _ _
      have hQ := hid hq
      clear hq
      generalize 0 / 256 ^ k = q at *
      go_wp2
      refine ⟨⟨k + 1, by omega, by go_num, ?_, row_step hrow _ (by rw [hbt]; go_num), hB.setCell (Nat.le_refl _) _⟩, ?_⟩
      · unfold Hid at hQ; rw [hQ]; go_num
      · simp only; omega
    · have hkk : k = W := by omega
      have hcv := row_conv (N := 0) hrow (fun j hj => if_pos (by omega))
      go_wp2
      go_ret
      exact ⟨rfl, hB⟩

theorem put_neg_big (n : Int) (hn : n < 0) (b : Int) (hb : 8 < b) (w : World) :
    Calls Tryd.prog 10 #[.int .i64 n, .int .i64 b] w fun e w' => e = .returned (.string ⟨(putN 0 8).toArray⟩) ∧ Below w.heap.size w w' := by
  have hmk : ∀ w : World, (Instr.makeSlice 32 (.int .i64 8) (.int .i64 8)).run Tryd.prog w = .ok (.slice (some ⟨w.heap.size, 0, none⟩) 8 8) (w.alloc (.cells (madeCells #[.int .u8 0] 8) 5)) :=
    fun w => run_make_row' (P := Tryd.prog) 32 5 (.int .u8 0) 1 Tryd.underlying32 info8 rfl .i64 .i64 8 (by omega) (by omega) w
  go_enter Tryd.func10, Tryd.ntmps10
  go_wp2
  go_loopw [0, 15] (fun n i wr => ∃ k : Nat, k ≤ 8 ∧ i = .int .i64 k ∧ n = .int .i64 ((0 / 256 ^ k : Nat) : Int) ∧ wr.rowIs w.heap.size 5 8 (fun j => if j < k then bt 0 j else .int .u8 0) ∧ Below w.heap.size w wr)
    (fun _ i _ => match i with | .int _ q => 8 - q.toNat | _ => 0)
  case atStart => exact ⟨0, Nat.zero_le _, rfl, by simp, (World.rowIs_made _ _ _ _).congr (fun j _ => by simp), (Below.refl _ _).alloc (Nat.le_refl _) _⟩
  case round =>
    obtain ⟨k, hk, rfl, rfl, hrow, hB⟩ := hrel
    by_cases hkl : k < 8
    · have hbt : bt 0 k = .int .u8 ((0 / 256 ^ k % 256 : Nat) : Int) := rfl
      have hq : 0 / 256 ^ (k + 1) = 0 / 256 ^ k / 256 := by rw [Nat.pow_succ, Nat.div_div_eq_div_mul]
      have hcell := hrow.cell hkl
      have hfr := hrow.frozen k
      have hNk : 0 / 256 ^ k ≤ 0 := Nat.div_le_self _ _
      have hQ := hid hq
      clear hq
      generalize 0 / 256 ^ k = q at *
      go_wp2
      refine ⟨⟨k + 1, by omega, by go_num, ?_, row_step hrow _ (by rw [hbt]; go_num), hB.setCell (Nat.le_refl _) _⟩, ?_⟩
      · unfold Hid at hQ; rw [hQ]; go_num
      · simp only; omega
    · have hkk : k = 8 := by omega
      have hcv := row_conv (N := 0) hrow (fun j hj => if_pos (by omega))
      go_wp2
      go_ret
      exact ⟨rfl, hB⟩

theorem putI_pos (N : Nat) (b : Int) : putI (N : Int) b = putN N (wd b) := rfl
theorem putI_neg {n : Int} (h : n < 0) (b : Int) : putI n b = putN 0 (wd b) := by
  unfold putI nn; rw [Int.toNat_of_nonpos (by omega)]
theorem wd_zero {b : Int} (h : b ≤ 0) : wd b = 0 := by unfold wd; omega
theorem wd_big {b : Int} (h : 8 < b) : wd b = 8 := by unfold wd; omega
theorem wd_mid {W : Nat} (h : W ≤ 8) : wd (W : Int) = W := by unfold wd; omega
theorem put_any (n b : Int) (hn : n ≤ 9223372036854775807) (w : World) :
    Calls Tryd.prog 10 #[.int .i64 n, .int .i64 b] w fun e w' => e = .returned (.string ⟨(putI n b).toArray⟩) ∧ Below w.heap.size w w' := by
  by_cases h0 : n < 0
  · rw [putI_neg h0]
    by_cases hz : b ≤ 0
    · rw [wd_zero hz]; exact put_neg_zero n h0 b hz w
    · by_cases hb : 8 < b
      · rw [wd_big hb]; exact put_neg_big n h0 b hb w
      · obtain ⟨W, rfl⟩ := Int.eq_ofNat_of_zero_le (show 0 ≤ b by omega)
        rw [wd_mid (by omega)]; exact put_neg_mid n h0 W (by omega) w
  · obtain ⟨N, rfl⟩ := Int.eq_ofNat_of_zero_le (show 0 ≤ n by omega)
    rw [putI_pos]
    by_cases hz : b ≤ 0
    · rw [wd_zero hz]; exact put_pos_zero N (by omega) b hz w
    · by_cases hb : 8 < b
      · rw [wd_big hb]; exact put_pos_big N (by omega) b hb w
      · obtain ⟨W, rfl⟩ := Int.eq_ofNat_of_zero_le (show 0 ≤ b by omega)
        rw [wd_mid (by omega)]; exact put_pos_mid N (by omega) W (by omega) w

/-! ### Put of the reference -/
theorem cells_snoc8 (l : List UInt8) (c : UInt8) : Lib.byteCells l ++ [.int .u8 (c.toNat : Int)] = Lib.byteCells (l ++ [c]) := by simp [Lib.byteCells]
theorem own_conv {base : Nat} {v : Value} {out : List UInt8} {w : World} (h : w.ownsRow base 5 1 v out.length (Lib.byteCells out)) : (convert 32 9 v).run Tryd.prog w = .ok (.string ⟨out.toArray⟩) w := by
  rcases h.2 with ⟨rfl, h0⟩ | ⟨g, cap, cur, rfl, _⟩
  · have : out = [] := List.eq_nil_of_length_eq_zero h0
    subst this
    rw [run_convert_bytes_string w 32 9 5 none 0 0 Tryd.underlying32 Tryd.underlying5 Tryd.underlying9]
    rfl
  · refine run_convert_bytes_back (P := Tryd.prog) w 32 9 5 ⟨g, 0, none⟩ cap out Tryd.underlying32 Tryd.underlying5 Tryd.underlying9 (fun j hj => ?_)
    refine h.cells (g := g) rfl j _ ?_
    simp [Lib.byteCells, hj]

set_option maxHeartbeats 1000000 in
theorem rput_pos (N : Nat) (hN : N ≤ 9223372036854775807) (b : Int) (w : World) :
    Calls Tryd.prog 11 #[.int .i64 (N : Int), .int .i64 b] w fun e w' => e = .returned (.string ⟨(putN N (wd b)).toArray⟩) ∧ Below w.heap.size w w' := by
  obtain ⟨i0, hi, hz0, hz1, hz2⟩ := info_parts info8
  have hW : (∀ k : Nat, k < wd b → (k : Int) < b ∧ (k : Int) < 8) ∧ (∀ k : Nat, k = wd b → b ≤ (k : Int) ∨ ((k : Int) < b ∧ (k : Int) = 8)) := by unfold wd; constructor <;> intro k hk <;> omega
  have hW8 := wd_le b
  generalize wd b = W at *
  go_enter Tryd.func11, Tryd.ntmps11
  go_wp2
  go_loopw [0, 5, 6] (fun n v i wr => ∃ k : Nat, k ≤ W ∧ i = .int .i64 k ∧ n = .int .i64 ((N / 256 ^ k : Nat) : Int) ∧ wr.ownsRow w.heap.size 5 1 v (putN N k).length (Lib.byteCells (putN N k)) ∧ Below w.heap.size w wr)
    (fun _ _ i _ => match i with | .int _ q => W - q.toNat | _ => 0)
  case atStart => exact ⟨0, Nat.zero_le _, rfl, by simp, World.ownsRow_nil _ _ _ _, Below.refl _ _⟩
  case round =>
    obtain ⟨k, hk, rfl, rfl, hown, hB⟩ := hrel
    by_cases hkl : k < W
    · obtain ⟨h1, h2⟩ := hW.1 k hkl
      have hq : N / 256 ^ (k + 1) = N / 256 ^ k / 256 := by rw [Nat.pow_succ, Nat.div_div_eq_div_mul]
      have hNk : N / 256 ^ k ≤ N := Nat.div_le_self _ _
      have hsn := putN_snoc k N
      have hlen := putN_length k N
      have hQ := hid hq
      have hS := hid hsn
      clear hq hsn hW
      generalize N / 256 ^ k = q at *
      have hu := u8_mod q
      have hbl : (Lib.byteCells (putN N k)).length = k := by simp [Lib.byteCells, hlen]
      go_wp2_with (first
        | (at_builtin; refine wpList_append_own _ rfl (.tmp 18) (.tmp 22) 32 rfl w.heap.size 5 i0 (.int .u8 0) 1 1 Tryd.underlying32 hi hz0 hz1 hz2 rfl (by decide) _ _ _ rfl (hown.alloc _) ⟨wr.heap.size, 0, none⟩ 1 1 [.int .u8 ((q : Int) % 256)] rfl rfl (cell_one_new _ _ _) (fun x hx => by simp at hx; subst hx; rfl) (by unfold maxLen; omega) (by omega) (by have := hB.size; simp; omega) ?_; intro v' w1 hown' hgrow _))
      refine ⟨⟨k + 1, by omega, by go_num, ?_, ?_, (hB.alloc hB.size _).grown hgrow (by have := hB.size; simp; omega) (fun j hj => (hown.lt j hj).1)⟩, ?_⟩
      · unfold Hid at hQ; rw [hQ]; go_num
      · unfold Hid at hS
        rw [hS, List.length_append, ← cells_snoc8, hu]
        exact hown'
      · simp only; omega
    · have hkk : k = W := by omega
      subst hkk
      have hcv := own_conv hown
      rcases hW.2 k rfl with h1 | ⟨h1, h2⟩
      · clear hW
        go_wp2
        go_ret
        exact ⟨rfl, hB⟩
      · clear hW
        go_wp2
        go_ret
        exact ⟨rfl, hB⟩

set_option maxHeartbeats 1000000 in
theorem rput_neg (n : Int) (hn : n < 0) (b : Int) (w : World) :
    Calls Tryd.prog 11 #[.int .i64 n, .int .i64 b] w fun e w' => e = .returned (.string ⟨(putN 0 (wd b)).toArray⟩) ∧ Below w.heap.size w w' := by
  obtain ⟨i0, hi, hz0, hz1, hz2⟩ := info_parts info8
  have hW : (∀ k : Nat, k < wd b → (k : Int) < b ∧ (k : Int) < 8) ∧ (∀ k : Nat, k = wd b → b ≤ (k : Int) ∨ ((k : Int) < b ∧ (k : Int) = 8)) := by unfold wd; constructor <;> intro k hk <;> omega
  have hW8 := wd_le b
  generalize wd b = W at *
  go_enter Tryd.func11, Tryd.ntmps11
  go_wp2
  go_loopw [0, 5, 6] (fun n v i wr => ∃ k : Nat, k ≤ W ∧ i = .int .i64 k ∧ n = .int .i64 ((0 / 256 ^ k : Nat) : Int) ∧ wr.ownsRow w.heap.size 5 1 v (putN 0 k).length (Lib.byteCells (putN 0 k)) ∧ Below w.heap.size w wr)
    (fun _ _ i _ => match i with | .int _ q => W - q.toNat | _ => 0)
  case atStart => exact ⟨0, Nat.zero_le _, rfl, by simp, World.ownsRow_nil _ _ _ _, Below.refl _ _⟩
  case round =>
    obtain ⟨k, hk, rfl, rfl, hown, hB⟩ := hrel
    by_cases hkl : k < W
    · obtain ⟨h1, h2⟩ := hW.1 k hkl
      have hq : 0 / 256 ^ (k + 1) = 0 / 256 ^ k / 256 := by rw [Nat.pow_succ, Nat.div_div_eq_div_mul]
      have hNk : 0 / 256 ^ k ≤ 0 := Nat.div_le_self _ _
      have hsn := putN_snoc k 0
      have hlen := putN_length k 0
      have hQ := hid hq
      have hS := hid hsn
      clear hq hsn hW
      generalize 0 / 256 ^ k = q at *
      have hu := u8_mod q
      have hbl : (Lib.byteCells (putN 0 k)).length = k := by simp [Lib.byteCells, hlen]
      go_wp2_with (first
        | (at_builtin; refine wpList_append_own _ rfl (.tmp 18) (.tmp 22) 32 rfl w.heap.size 5 i0 (.int .u8 0) 1 1 Tryd.underlying32 hi hz0 hz1 hz2 rfl (by decide) _ _ _ rfl (hown.alloc _) ⟨wr.heap.size, 0, none⟩ 1 1 [.int .u8 ((q : Int) % 256)] rfl rfl (cell_one_new _ _ _) (fun x hx => by simp at hx; subst hx; rfl) (by unfold maxLen; omega) (by omega) (by have := hB.size; simp; omega) ?_; intro v' w1 hown' hgrow _))
      refine ⟨⟨k + 1, by omega, by go_num, ?_, ?_, (hB.alloc hB.size _).grown hgrow (by have := hB.size; simp; omega) (fun j hj => (hown.lt j hj).1)⟩, ?_⟩
      · unfold Hid at hQ; rw [hQ]; go_num
      · unfold Hid at hS
        rw [hS, List.length_append, ← cells_snoc8, hu]
        exact hown'
      · simp only; omega
    · have hkk : k = W := by omega
      subst hkk
      have hcv := own_conv hown
      rcases hW.2 k rfl with h1 | ⟨h1, h2⟩
      · clear hW
        go_wp2
        go_ret
        exact ⟨rfl, hB⟩
      · clear hW
        go_wp2
        go_ret
        exact ⟨rfl, hB⟩

theorem rput_any (n b : Int) (hn : n ≤ 9223372036854775807) (w : World) :
    Calls Tryd.prog 11 #[.int .i64 n, .int .i64 b] w fun e w' => e = .returned (.string ⟨(putI n b).toArray⟩) ∧ Below w.heap.size w w' := by
  by_cases h0 : n < 0
  · rw [putI_neg h0]; exact rput_neg n h0 b w
  · obtain ⟨N, rfl⟩ := Int.eq_ofNat_of_zero_le (show 0 ≤ n by omega)
    exact rput_pos N (by omega) b w

end Go.Proofs.YtbcnehjpondplaaDoor
